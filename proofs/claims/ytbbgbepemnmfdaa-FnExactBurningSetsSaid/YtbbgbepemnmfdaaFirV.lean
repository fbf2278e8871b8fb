/- SavedNodes: the contracts of the program's and the model's. -/
import Derived.Handy
import Derived.Test.YtbbgbepemnmfdaaFirB
import Derived.Test.YtbbgbepemnmfdaaFirQ
import Derived.Deep.DeepCutAuto
import Derived.Deep.RegionHeld3
import Derived.Deep.QuietTactic
import Derived.Maps.AppendAt
namespace Go.Proofs.Ytbbgbepemnmfdaa.fires
open Go.RowKit Go.Maps P2 words edges ints good adjs fns sets rets covs balls bitsI bags ups gridr mids grid
set_option linter.unusedVariables false

theorem cellsF_at : ∀ {L : List Fr} {k : Nat} {f : Fr}, L[k]? = some f → (cellsF L)[k * 2]? = some (.int .u64 (f.1 : Int)) ∧ (cellsF L)[k * 2 + 1]? = some (.int .u64 (f.2 : Int))
  | [], _, _, h => by simp at h
  | a :: l, 0, e, h => by
    simp at h
    subst h
    exact ⟨rfl, rfl⟩
  | a :: l, k + 1, e, h => by
    have := cellsF_at (L := l) (k := k) (f := e) (by simpa using h)
    simp only [cellsF, List.flatMap_cons] at this ⊢
    rw [show (k + 1) * 2 = (k * 2) + 2 from by omega, show k * 2 + 2 + 1 = (k * 2 + 1) + 2 from by omega]
    exact this
theorem cellsF_len (L : List Fr) : (cellsF L).length = L.length * 2 := by
  induction L with
  | nil => rfl
  | cons a l ih => simp only [cellsF, List.flatMap_cons, List.length_append, List.length_cons, List.length_nil] at ih ⊢; omega
theorem frF_at {w : World} {B N n x : Nat} {l : List Ed} {rows : List (List Int)} {v : Value} (h : w.ownsRow B 91 2 v (N + 1) (cellsF (frL l n x rows N))) :
    ∃ g c, v = .slice (some ⟨g, 0, none⟩) (N + 1) c ∧ w.cell? ⟨g, N * 2, none⟩ = some (.int .u64 ((stF l n x rows N).1 : Int)) ∧ w.cell? ⟨g, N * 2 + 1, none⟩ = some (.int .u64 ((stF l n x rows N).2 : Int)) := by
  rcases h.2 with ⟨_, h0⟩ | ⟨g, cap, cur, rfl, hrest⟩
  · omega
  · have hc := fun i hi => h.cellAt i hi
    have hl := cellsF_len (frL l n x rows N)
    rw [frL_len] at hl
    have ha : (frL l n x rows N)[N]? = some (stF l n x rows N) := by unfold frL; simp
    refine ⟨g, cap, rfl, ?_, ?_⟩
    · rw [hc (N * 2) (by omega), (cellsF_at ha).1]
    · rw [hc (N * 2 + 1) (by omega), (cellsF_at ha).2]
noncomputable def savP (s : Int) (l : List Ed) (start : Int) (rows : List (List Int)) : List Int := savL l s.toNat start.toNat rows
theorem savClo_any (y b p : Nat) (w : World) (h1 : w.cell? ⟨p, 0, none⟩ = some (.int .u64 (b : Int))) (hb : b < 256) (hy : y ≤ 8) :
    Calls Try.prog 81 #[.int .i64 (y : Int), .pointer (some ⟨p, 0, none⟩)] w fun e w' => e = .returned (.bool (!bitB b y)) ∧ w = w' := by
  have HH := Lib.hid (fun (W : World) => has_any b y W (by omega) hy)
  unfold bitB
  go_enter Try.func81, Try.ntmps81
  go_wp2_with fail
  refine (HH.out w).mono ?_
  rintro e w' ⟨rfl, rfl⟩
  go_wp2_with fail
  go_ret
  exact ⟨rfl, rfl⟩
theorem savClo_fn (n b p : Nat) (w : World) (hn : n ≤ 8) (h1 : w.cell? ⟨p, 0, none⟩ = some (.int .u64 (b : Int))) (hb : b < 256) :
    Fn1 w 81 #[.pointer (some ⟨p, 0, none⟩)] n (fun y => !bitB b y) where
  enter := fun _ _ => by kernel_rfl
  call := fun W hW y hy => (savClo_any y b p W (nearv.cell_keep h1 hW) hb (by omega)).mono fun _ _ ⟨he, hw⟩ => ⟨he, hw ▸ Below.refl _ _⟩
set_option maxHeartbeats 1000000 in
set_option maxRecDepth 100000 in
theorem implSav_any (s start d : Int) (v : Value) (A2 : Option Addr) (c2 : Nat) (us : List Value) (rows : List (List Int)) (l : List Ed) (w : World) (h : Edges w v l) (hl : l.length ≤ 1048576) (hp : ReadsG w (.slice A2 rows.length c2) us rows) (hrl : rows.length ≤ 1048576) (hrr : ∀ r ∈ rows, r.length ≤ 1048576) :
    Calls Try.prog 40 #[.agg #[.int .i64 s, v], .int .i64 start, .int .i64 d, .slice A2 rows.length c2] w (RetI w (PlanP s l start d rows) (savP s l start rows)) := by
  obtain ⟨A, c, rfl, -⟩ := h.form
  have b0 : Below w.heap.size w (w.alloc (.cells #[.int .i64 s, .slice A l.length c] 29)) := (Below.refl _ _).alloc (Nat.le_refl _) _
  have g0 := Blk.new w 29 #[.int .i64 s, .slice A l.length c]
  obtain ⟨p0, p1, -, -⟩ := g0.two
  have HFO := Lib.hid (firesOf_any s start d (.slice A l.length c) A2 c2 us rows l _ (h.below b0) hl (hp.below b0) hrl hrr)
  have HB0 := Lib.hid b0
  have HG0 := Lib.hid g0
  clear h hp hrr b0 g0
  go_enter Try.func40, Try.ntmps40
  go_wp2_with fail
  refine HFO.out.mono ?_
  rintro e w1 ⟨hcase, b1⟩
  have HE1 := Lib.hid (btrans HB0.out b1)
  have HG1 := Lib.hid (HG0.out.below b1 HG0.out.lt)
  clear p0 p1 b1 HFO HB0 HG0
  obtain ⟨p0, p1, -, -⟩ := HG1.out.two
  rcases hcase with ⟨hpl, N, A4, c4, hen, hN, rfl, hrow⟩ | ⟨hpl, rfl⟩
  · have HPL := Lib.hid hpl
    have hng := nodesB_iff.1 hpl.1.1
    have h0 := hng.1.1
    have h8 := hng.1.2.1
    have hst := hng.2 start (by simp)
    obtain ⟨n, rfl⟩ : ∃ n : Nat, s = (n : Int) := ⟨s.toNat, by omega⟩
    obtain ⟨x, rfl⟩ : ∃ x : Nat, start = (x : Int) := ⟨start.toNat, by omega⟩
    rw [Int.toNat_natCast, Int.toNat_natCast] at hen hrow
    obtain ⟨g, cg, hv, m0, m1⟩ := frF_at hrow
    obtain ⟨rfl, rfl⟩ : A4 = some ⟨g, 0, none⟩ ∧ c4 = cg := by simpa using hv
    have hfr := (st_ok (d := d) (l := l) (rows := rows) (show x < n by omega) (fun i hi => by have := (hpl.2.2 i hi).2.1; rwa [Int.toNat_natCast] at this) N)
    have hb8 : (stF l n x rows N).1 < 256 := Nat.lt_of_lt_of_le hfr.1 (pow_le (show n ≤ 8 by omega))
    have HVL : Hid (savP (n : Int) l (x : Int) rows = nw (fun y => !bitB (stF l n x rows N).1 y) n) := by
      show _ = _
      unfold savP savL
      rw [Int.toNat_natCast, Int.toNat_natCast, endN_is hen]
    have hw1 : IntKind.i64.wrap (N : Int) = (N : Int) := Go.IntWalk.i64_in _ (by omega)
    have hN1 : (N : Int) < (N : Int) + 1 := by omega
    have hN0 : (0 : Int) ≤ (N : Int) := by omega
    clear hpl hen hng hst hrow hv hfr
    generalize (stF l n x rows N).1 = b at *
    generalize (stF l n x rows N).2 = dd at *
    have hn8 : n ≤ 8 := by omega
    have p2 := keep_al (o := .cells #[.int .u64 (b : Int), .int .u64 (dd : Int)] 91) p0
    have HF := Lib.hid (savClo_fn n b w1.heap.size (w1.alloc (.cells #[.int .u64 (b : Int), .int .u64 (dd : Int)] 91)) hn8 ((Blk.new w1 91 #[.int .u64 (b : Int), .int .u64 (dd : Int)]).cell 0) hb8)
    have HB2 : Hid (Below w.heap.size w (w1.alloc (.cells #[.int .u64 (b : Int), .int .u64 (dd : Int)] 91))) := HE1.out.alloc HE1.out.size _
    go_wp2_with fail
    refine (nodesWhere_any n 81 _ _ _ hn8 HF.out).mono ?_
    rintro e w4 ⟨A4, c4, rfl, o4, b4⟩
    have HO4 := Lib.hid o4
    have HB4 := Lib.hid (btrans HB2.out b4)
    clear o4 b4
    go_wp2_with fail
    go_ret2
    rw [HVL.out]
    exact RetI.yes HPL.out (own_base HO4.out HB2.out.size) HB4.out
  · have HNO := Lib.hid hpl
    clear hpl
    go_wp2_with fail
    go_ret2
    exact RetI.nil HNO.out HE1.out
set_option maxHeartbeats 4000000 in
set_option maxRecDepth 100000 in
theorem specSav_any (s start d : Int) (v : Value) (A2 : Option Addr) (c2 : Nat) (us : List Value) (rows : List (List Int)) (l : List Ed) (w : World) (h : Edges w v l) (hl : l.length ≤ 1048576) (hp : ReadsG w (.slice A2 rows.length c2) us rows) (hrl : rows.length ≤ 1048576) (hrr : ∀ r ∈ rows, r.length ≤ 1048576) (hs1 : -9223372036854775808 ≤ s) (hs2 : s ≤ 9223372036854775807) :
    Calls Try.prog 39 #[.agg #[.int .i64 s, v], .int .i64 start, .int .i64 d, .slice A2 rows.length c2] w (RetI w (PlanP s l start d rows) (savP s l start rows)) := by
  obtain ⟨i0, hi, hz0, hz1, hz2⟩ := info_parts infoInt
  obtain ⟨A, c, rfl, -⟩ := h.form
  have H := Lib.hid h
  have HP := Lib.hid hp
  have b0 : Below w.heap.size w ((w.alloc (.cells #[.int .i64 s, .slice A l.length c] 29)).alloc (.cells #[] 3)) := ((Below.refl _ _).alloc (Nat.le_refl _) _).alloc (by simp) _
  have g0 := (Blk.new w 29 #[.int .i64 s, .slice A l.length c]).alloc (.cells #[] 3)
  have o0 := own_new0 (w.alloc (.cells #[.int .i64 s, .slice A l.length c] 29)) 3 1
  rw [World.size_alloc] at o0
  obtain ⟨p0, p1, -, -⟩ := g0.two
  have HGD := Lib.hid (l8Good_any s start d _ l _ (h.below b0) hl hs1 hs2)
  have HB0 := Lib.hid b0
  have HG0 := Lib.hid g0
  have HO0 := Lib.hid (own_base (B' := w.heap.size) o0 (Nat.le_add_right _ _))
  clear b0 g0 o0
  by_cases hfp : FireP s l start d
  · rw [okG_yes hfp] at HGD
    have hng := nodesB_iff.1 hfp.1
    have h0 := hng.1.1
    have h8 := hng.1.2.1
    have hst := hng.2 start (by simp)
    obtain ⟨n, rfl⟩ : ∃ n : Nat, s = (n : Int) := ⟨s.toNat, by omega⟩
    obtain ⟨x, rfl⟩ : ∃ x : Nat, start = (x : Int) := ⟨start.toNat, by omega⟩
    have hn : n ≤ 8 := by omega
    have hxn : x < n := by omega
    have HPN := Lib.hid (fun (W : World) (hW : Below w.heap.size w W) => l8Plan_any n x d (.slice A l.length c) A2 c2 us rows l W (H.out.below hW) hl hng.1 hn hxn (HP.out.below hW) hrl hrr)
    by_cases hpl : PlanN n l x d rows
    · rw [okG_yes hpl] at HPN
      have HOK : Hid (PlanP (n : Int) l (x : Int) d rows) := ⟨hfp, by rw [Int.toNat_natCast, Int.toNat_natCast]; exact hpl⟩
      have HBN := Lib.hid (fun (W : World) (hW : Below w.heap.size w W) => l8Burn_any n x (.slice A l.length c) A2 c2 us rows l W (H.out.below hW) hl hn hxn (HP.out.below hW) hpl.1 hrr (fun i hi => (hpl.2 i hi).2.1))
      have HFK := Lib.hid (fun N => st_ok (d := d) (l := l) (rows := rows) hxn (fun i hi => (hpl.2 i hi).2.1) N)
      clear hfp hng hst h hp hrr hpl
      go_enter Try.func39, Try.ntmps39
      go_wp2_with fail
      refine HGD.out.mono ?_
      rintro e w1 ⟨rfl, b1⟩
      have HE1 := Lib.hid (btrans HB0.out b1)
      have HG1 := Lib.hid (HG0.out.below b1 HG0.out.lt)
      have HO1 := Lib.hid (own_below HO0.out b1)
      have HL1 := Lib.hid (HPN.out w1 HE1.out)
      have hz1 := b1.size
      rw [World.size_alloc, World.size_alloc] at hz1
      have HZ1 := Lib.hid hz1
      clear p0 p1 b1 HGD HB0 HG0 HO0 hz1
      obtain ⟨p0, p1, -, -⟩ := HG1.out.two
      go_wp2_with fail
      refine HL1.out.mono ?_
      rintro e w2 ⟨rfl, b2⟩
      have HZ2 := Lib.hid (Nat.le_trans HZ1.out b2.size)
      have HE2 := Lib.hid (btrans HE1.out b2)
      have HG2 := Lib.hid (HG1.out.below b2 HG1.out.lt)
      have HO2 := Lib.hid (own_below HO1.out b2)
      have HL2 := Lib.hid (HBN.out w2 HE2.out)
      clear p0 p1 b2 HE1 HG1 HO1 HL1 HPN HBN
      obtain ⟨p0, p1, -, -⟩ := HG2.out.two
      go_wp2_with fail
      refine HL2.out.mono ?_
      rintro e w3 ⟨N, y, ws, rfl, hen, hN, hof, b3⟩
      obtain ⟨a, b, gs, cs, -, rfl, m0, m1, ha, hb⟩ := hof.at_ (Nat.le_refl N)
      obtain ⟨Aa, ca, rfl⟩ := own_form ha
      have HV : Hid (savP (n : Int) l (x : Int) rows = nw (fun y => !bitB (stF l n x rows N).1 y) n) := by
        show _ = _
        unfold savP savL
        rw [Int.toNat_natCast, Int.toNat_natCast, endN_is hen]
      have HE3 := Lib.hid (btrans HE2.out b3)
      have HG3 := Lib.hid (HG2.out.below b3 HG2.out.lt)
      have HO3 := Lib.hid (own_below HO2.out b3)
      have HA3 : Hid (RowI2 w3 w.heap.size (.slice Aa (lB l n x rows N).length ca) (lB l n x rows N)) := own_base ha HE2.out.size
      have HAP : Hid (∀ q, (Value.slice (some ⟨w.heap.size + 1, 0, none⟩) 0 0).ownBlock = some q → q ≠ gs ∧ (Value.slice Aa (lB l n x rows N).length ca).ownBlock ≠ some q) := fun q hq => by
        simp [Value.ownBlock] at hq
        subst hq
        have h1 := (hof.1.lt gs rfl).1
        have h2 := HZ2.out
        exact ⟨by omega, fun h => by have := (World.ownsRow.lt ha _ h).1; omega⟩
      have HMB := Lib.hid (fun (y : Nat) => mem_bits (n := n) (y := y) (HFK.out N).1)
      have HLL : Hid (lB l n x rows N = nw (bitB (stF l n x rows N).1) n) := rfl
      have HM0 := Lib.hid m0
      have hw1 : IntKind.i64.wrap (N : Int) = (N : Int) := Go.IntWalk.i64_in _ (by omega)
      have hN1 : (N : Int) < (N : Int) + 1 := by omega
      have hN0 : (0 : Int) ≤ (N : Int) := by omega
      have hll : (lB l n x rows N).length ≤ 1048576 := by have := nw_len (bitB (stF l n x rows N).1) n; rw [HLL.out]; omega
      simp only [← HLL.out] at HMB
      clear hen hof b3 ha hb p0 p1 m0 m1 HE2 HG2 HO2 HL2 HFK HLL
      generalize lB l n x rows N = LB at *
      generalize (stF l n x rows N).1 = bb at *
      go_wp2_with fail
      have HS0 : Hid (w3.ownsRow w.heap.size 3 1 (.slice (some ⟨w.heap.size + 1, 0, none⟩) 0 0) (nw (fun y => !bitB bb y) 0).length (cellsI (nw (fun y => !bitB bb y) 0))) := HO3.out
      go_loopg [10, 12] n (fun g ov iv wr => ∃ (k : Nat) (ow : Value), ow = ov ∧ k + g = n ∧ iv = .int .i64 (k : Int) ∧ wr.ownsRow w.heap.size 3 1 ow (nw (fun y => !bitB bb y) k).length (cellsI (nw (fun y => !bitB bb y) k)) ∧ Blk wr w.heap.size 29 #[.int .i64 (n : Int), .slice A l.length c] ∧ Hid (wr.cell? ⟨gs, N * 2, none⟩ = some (.slice Aa LB.length ca)) ∧ RowI2 wr w.heap.size (.slice Aa LB.length ca) LB ∧ Hid (∀ q, ow.ownBlock = some q → q ≠ gs ∧ (Value.slice Aa LB.length ca).ownBlock ≠ some q) ∧ Below w.heap.size w wr)
      case atStart => exact ⟨0, _, rfl, by omega, rfl, HS0.out, HG3.out, HM0, HA3.out, HAP, HE3.out⟩
      case round =>
        clear HS0 HG3 HM0 HA3 HE3 HO3 HAP
        obtain ⟨k, ow, rfl, hkg, rfl, hrow, hgb, hm, hra, hap, hB⟩ := hrel
        obtain ⟨A4, c4, rfl⟩ := own_form hrow
        obtain ⟨p0, p1, -, -⟩ := hgb.two
        have m0 := hm.out
        have HR := Lib.hid hrow
        have HG := Lib.hid hgb
        have HE := Lib.hid hB
        have HA := Lib.hid hra
        cases gk with
        | zero =>
          obtain rfl : k = n := by omega
          clear hrow hgb hB hra
          go_wp2_with fail
          go_ret2
          rw [HV.out]
          exact RetI.yes HOK.out HR.out HE.out
        | succ g2 =>
          have hkn' : (k : Int) < (n : Int) := by omega
          have hnl := nw_len (fun y => !bitB bb y) k
          have HH := Lib.hid (l1Has_any (.slice Aa LB.length ca) LB (k : Int) wr (Reads.of_own hra) hll)
          rw [HMB.out] at HH
          cases hb1 : bb.testBit k with
          | true =>
            have HN := Lib.hid (nw_no (p := fun y => !bitB bb y) (k := k) (by show (!bb.testBit k) = false; rw [hb1]; rfl))
            rw [hb1] at HH
            clear hrow hgb hB hra
            go_wp2_with fail
            refine HH.out.mono ?_
            rintro e w' ⟨rfl, rfl⟩
            go_wp2_with fail
            go_roundg g2
            case measure => omega
            case rel => exact ⟨k + 1, _, rfl, by omega, by go_num, by rw [HN.out]; exact HR.out, HG.out, hm, HA.out, hap, HE.out⟩
          | false =>
            have HN := Lib.hid (nw_yes (p := fun y => !bitB bb y) (k := k) (by show (!bb.testBit k) = true; rw [hb1]; rfl))
            rw [hb1] at HH
            clear hgb hB hra
            generalize nw (fun y => !bitB bb y) k = m at *
            go_wp2_with fail
            refine HH.out.mono ?_
            rintro e w' ⟨rfl, rfl⟩
            have hws := HE.out.size
            go_wp2_with (at_builtin; refine wpList_append_own_at _ rfl _ _ 26 rfl (w.heap.size) 3 i0 (.int .i64 0) 1 8 Try.underlying26 hi hz0 hz1 hz2 rfl (by decide) _ _ _ rfl (hrow.alloc _) ⟨wr.heap.size, 0, none⟩ 1 1 [.int .i64 ((k : Int))] rfl rfl (cell_one_new _ _ _) (fun x hx => by simp at hx; subst hx; rfl) (by unfold maxLen; omega) (by omega) (by simp; omega) ?_; intro v2 w2 hown2 hgrow2 _ hl2)
            obtain ⟨hown3, hB2⟩ := push1 hrow hown2 hgrow2 (by omega)
            have hA8 : RowI2 w2 w.heap.size (.slice Aa LB.length ca) LB := (World.ownsRow.alloc HA.out _).kept hgrow2 (by
              cases hh : (Value.slice Aa LB.length ca).ownBlock with
              | none => exact .inl rfl
              | some q => exact .inr fun e => (hap.out q e.symm).2 hh)
            have hgl := World.block_lt_of_cell? wr (a := ⟨gs, N * 2, none⟩) hm.out
            have hM8 : w2.cell? ⟨gs, N * 2, none⟩ = some (.slice Aa LB.length ca) := World.grownBy.cell hgrow2 (keep_al hm.out) (fun e => (hap.out gs e.symm).1 rfl)
            have hG8 := (HG.out.alloc (.cells #[.int .i64 (k : Int)] 3)).grown hgrow2 (fun e => own_ne hrow HG.out (by decide) e.symm)
            have hap8 : ∀ q, v2.ownBlock = some q → q ≠ gs ∧ (Value.slice Aa LB.length ca).ownBlock ≠ some q := fun q hq => by
              rcases hl2 with e | e
              · exact hap.out q (e.symm.trans hq)
              · rw [e] at hq
                simp at hq
                simp at hgl
                exact ⟨by omega, fun h => by have := (World.ownsRow.lt HA.out _ h).2; omega⟩
            have HR8 := Lib.hid hown3
            have HA8 := Lib.hid hA8
            have HM8 := Lib.hid hM8
            have HG8 := Lib.hid hG8
            have HAP8 := Lib.hid hap8
            have HE8 := Lib.hid (HE.out.trans (hB2.mono (by omega)))
            clear hown2 hgrow2 hown3 hB2 hA8 hM8 hG8 hap8 hl2 hrow hgl p0 p1 m0
            go_roundg g2
            case measure => omega
            case rel => exact ⟨k + 1, _, rfl, by omega, by go_num, by rw [HN.out]; exact HR8.out, HG8.out, HM8, HA8.out, HAP8, HE8.out⟩
    · rw [okG_no hpl] at HPN
      have HNO : Hid (¬ PlanP (n : Int) l (x : Int) d rows) := fun h => hpl (by have := h.2; rwa [Int.toNat_natCast, Int.toNat_natCast] at this)
      clear hfp hng hst h hp hrr hpl
      go_enter Try.func39, Try.ntmps39
      go_wp2_with fail
      refine HGD.out.mono ?_
      rintro e w1 ⟨rfl, b1⟩
      have HE1 := Lib.hid (btrans HB0.out b1)
      have HG1 := Lib.hid (HG0.out.below b1 HG0.out.lt)
      have HO1 := Lib.hid (own_below HO0.out b1)
      have HL1 := Lib.hid (HPN.out w1 HE1.out)
      clear p0 p1 b1 HGD HB0 HG0 HO0
      obtain ⟨p0, p1, -, -⟩ := HG1.out.two
      go_wp2_with fail
      refine HL1.out.mono ?_
      rintro e w2 ⟨rfl, b2⟩
      have HE2 := Lib.hid (btrans HE1.out b2)
      have HO2 := Lib.hid (own_below HO1.out b2)
      go_wp2_with fail
      go_ret2
      exact RetI.no HNO.out HO2.out HE2.out
  · rw [okG_no hfp] at HGD
    have HNO : Hid (¬ PlanP s l start d rows) := fun h => hfp h.1
    clear hfp h hp hrr
    go_enter Try.func39, Try.ntmps39
    go_wp2_with fail
    refine HGD.out.mono ?_
    rintro e w1 ⟨rfl, b1⟩
    have HE1 := Lib.hid (btrans HB0.out b1)
    have HO1 := Lib.hid (own_below HO0.out b1)
    clear p0 p1 b1
    go_wp2_with fail
    go_ret2
    exact RetI.no HNO.out HO1.out HE1.out
theorem sav_len (s : Int) (l : List Ed) (start d : Int) (rows : List (List Int)) : (inG (PlanP s l start d rows) (savP s l start rows)).length ≤ 1048576 := inG_len fun h => by
  have h8 := (nodesB_iff.1 h.1.1).1.2.1
  unfold savP savL
  have := nw_len (fun y => !bitB (stF l s.toNat start.toNat rows (endN l s.toNat start.toNat rows)).1 y) s.toNat
  omega
end Go.Proofs.Ytbbgbepemnmfdaa.fires
