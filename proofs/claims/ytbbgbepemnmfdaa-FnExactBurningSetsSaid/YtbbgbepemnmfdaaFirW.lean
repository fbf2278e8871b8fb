/- BurningSets: the contracts of the program's and the model's. -/
import Derived.Handy
import Derived.Test.YtbbgbepemnmfdaaFirV
import Derived.Test.YtbbgbepemnmfdaaGridW
import Derived.Test.YtbbgbepemnmfdaaGridL
import Derived.Deep.DeepCutAuto
import Derived.Deep.RegionHeld3
import Derived.Deep.QuietTactic
namespace Go.Proofs.Ytbbgbepemnmfdaa.fires
open Go.RowKit Go.Maps P2 words edges ints good adjs fns sets rets covs balls bitsI bags ups gridr mids grid
set_option linter.unusedVariables false

def bsK (l : List Ed) (n x : Nat) (rows : List (List Int)) (k : Nat) : List (List Int) := (List.range k).map (lB l n x rows)
section
variable (l : List Ed) (n x : Nat) (rows : List (List Int))
theorem bsK_len (k : Nat) : (bsK l n x rows k).length = k := by simp [bsK]
theorem bsK_succ (k : Nat) : bsK l n x rows (k + 1) = bsK l n x rows k ++ [lB l n x rows k] := by simp [bsK, List.range_succ]
def bsR (m k : Nat) : List (List Int) := bsK l n x rows k ++ List.replicate (m - k) []
theorem bsR_zero (m : Nat) : bsR l n x rows m 0 = List.replicate m [] := by simp [bsR, bsK]
theorem bsR_len {m k : Nat} (h : k ≤ m) : (bsR l n x rows m k).length = m := by simp [bsR, bsK_len]; omega
theorem bsR_all (m : Nat) : bsR l n x rows m m = bsK l n x rows m := by simp [bsR]
theorem bsR_succ {m k : Nat} (h : k < m) : (bsR l n x rows m k).set k (lB l n x rows k) = bsR l n x rows m (k + 1) := by
  unfold bsR
  rw [show m - k = (m - (k + 1)) + 1 from by omega, List.replicate_succ, List.set_append_right _ _ (by rw [bsK_len]; exact Nat.le_refl _), bsK_len, Nat.sub_self, List.set_cons_zero, bsK_succ, List.append_assoc]
  rfl
end
noncomputable def burL (s : Int) (l : List Ed) (start : Int) (rows : List (List Int)) : List (List Int) := bsK l s.toNat start.toNat rows (min (endN l s.toNat start.toNat rows) 20 + 1)
theorem sumB {rows : List (List Int)} {m : Nat} (h : ∀ r ∈ rows, r.length ≤ m) : (rows.map List.length).sum ≤ rows.length * m := by
  induction rows with
  | nil => simp
  | cons a t ih =>
    have h1 := h a (by simp)
    have h2 := ih (fun r hr => h r (by simp [hr]))
    simp only [List.map_cons, List.sum_cons, List.length_cons, Nat.succ_mul]
    omega
theorem frF_at2 {w : World} {B N n x : Nat} {l : List Ed} {rows : List (List Int)} {v : Value} (h : w.ownsRow B 91 2 v (N + 1) (cellsF (frL l n x rows N))) :
    ∃ g c, v = .slice (some ⟨g, 0, none⟩) (N + 1) c ∧ ∀ j, j ≤ N → w.cell? ⟨g, j * 2, none⟩ = some (.int .u64 ((stF l n x rows j).1 : Int)) ∧ w.cell? ⟨g, j * 2 + 1, none⟩ = some (.int .u64 ((stF l n x rows j).2 : Int)) := by
  rcases h.2 with ⟨_, h0⟩ | ⟨g, cap, cur, rfl, hrest⟩
  · omega
  · have hc := fun i hi => h.cellAt i hi
    have hl := cellsF_len (frL l n x rows N)
    rw [frL_len] at hl
    refine ⟨g, cap, rfl, fun j hj => ?_⟩
    have ha : (frL l n x rows N)[j]? = some (stF l n x rows j) := by
      unfold frL
      rw [List.getElem?_map, List.getElem?_range (by omega)]
      rfl
    exact ⟨by rw [hc (j * 2) (by omega), (cellsF_at ha).1], by rw [hc (j * 2 + 1) (by omega), (cellsF_at ha).2]⟩
set_option maxHeartbeats 4000000 in
set_option maxRecDepth 100000 in
theorem implBur_any (s start d : Int) (v : Value) (A2 : Option Addr) (c2 : Nat) (us : List Value) (rows : List (List Int)) (l : List Ed) (w : World) (h : Edges w v l) (hl : l.length ≤ 1048576) (hp : ReadsG w (.slice A2 rows.length c2) us rows) (hrl : rows.length ≤ 1048576) (hrr : ∀ r ∈ rows, r.length ≤ 1048576) :
    Calls Try.prog 36 #[.agg #[.int .i64 s, v], .int .i64 start, .int .i64 d, .slice A2 rows.length c2] w (RetGr w (PlanP s l start d rows) (burL s l start rows)) := by
  obtain ⟨i1, hi1, hy0, hy1, hy2⟩ := info_parts infoRow
  obtain ⟨A, c, rfl, -⟩ := h.form
  have b0 : Below w.heap.size w (w.alloc (.cells #[.int .i64 s, .slice A l.length c] 29)) := (Below.refl _ _).alloc (Nat.le_refl _) _
  have g0 := Blk.new w 29 #[.int .i64 s, .slice A l.length c]
  obtain ⟨p0, p1, -, -⟩ := g0.two
  have HFO := Lib.hid (firesOf_any s start d (.slice A l.length c) A2 c2 us rows l _ (h.below b0) hl (hp.below b0) hrl hrr)
  have HB0 := Lib.hid b0
  have hmk := fun (m : Nat) (hm : m ≤ 21) (W : World) => run_make_rowN (P := Try.prog) 40 26 i1 (.slice none 0 0) Try.underlying40 hi1 hy0 .i64 .i64 m m (Nat.le_refl _) (by rw [hy2]; omega) (by omega) W
  rw [hy1] at hmk
  simp only [Nat.mul_one] at hmk
  have HMK := Lib.hid hmk
  clear h hp hrr b0 g0 hmk
  go_enter Try.func36, Try.ntmps36
  go_wp2_with fail
  refine HFO.out.mono ?_
  rintro e w2 ⟨hcase, b1⟩
  have HE := Lib.hid (btrans HB0.out b1)
  clear p0 p1 b1 HFO HB0
  rcases hcase with ⟨hpl, N, A4, c4, hen, hN, rfl, hrow⟩ | ⟨hpl, rfl⟩
  · have HPL := Lib.hid hpl
    have hng := nodesB_iff.1 hpl.1.1
    have h0 := hng.1.1
    have h8 := hng.1.2.1
    have hst := hng.2 start (by simp)
    obtain ⟨n, rfl⟩ : ∃ n : Nat, s = (n : Int) := ⟨s.toNat, by omega⟩
    obtain ⟨x, rfl⟩ : ∃ x : Nat, start = (x : Int) := ⟨start.toNat, by omega⟩
    rw [Int.toNat_natCast, Int.toNat_natCast] at hen hrow
    obtain ⟨gf, cg, hv, hcf⟩ := frF_at2 hrow
    obtain ⟨rfl, rfl⟩ : A4 = some ⟨gf, 0, none⟩ ∧ c4 = cg := by simpa using hv
    have HFK := Lib.hid (fun N => st_ok (d := d) (l := l) (rows := rows) (show x < n by omega) (fun i hi => by have := (hpl.2.2 i hi).2.1; rwa [Int.toNat_natCast] at this) N)
    have hn : n ≤ 8 := by omega
    have HVL : Hid (burL (n : Int) l (x : Int) rows = bsK l n x rows (N + 1)) := by
      show _ = _
      unfold burL
      rw [Int.toNat_natCast, Int.toNat_natCast, endN_is hen, Nat.min_eq_left hN]
    have HCF := Lib.hid hcf
    have hmk := HMK.out (N + 1) (by omega)
    have HOM := Lib.hid ((OwnG.made w2 (N + 1) (by unfold maxLen; omega)).base HE.out.size)
    rw [Nat.mul_one] at HOM
    have HB0 : Hid (Below w2.heap.size w2 (w2.alloc (.cells (madeCells #[.slice none 0 0] (N + 1)) 26))) := (Below.refl _ _).alloc (Nat.le_refl _) _
    have hc1 : ((N + 1 : Nat) : Int) = (N : Int) + 1 := by omega
    rw [hc1] at hmk
    clear hpl hen hng hst hrow hv hcf HMK hc1
    go_wp2_with fail
    clear hmk
    go_loopg [28] (N + 1) (fun g iv wr => ∃ (k : Nat) (us : List Value), k + g = N + 1 ∧ iv = .int .i64 (k : Int) ∧ OwnG wr w.heap.size (.slice (some ⟨w2.heap.size, 0, none⟩) (N + 1) (N + 1)) us (bsR l n x rows (N + 1) k) ∧ Below w2.heap.size w2 wr)
    case atStart => exact ⟨0, _, by omega, rfl, by rw [bsR_zero]; exact HOM.out, HB0.out⟩
    case round =>
      clear HOM HB0
      obtain ⟨k, us, hkg, rfl, hG, hB⟩ := hrel
      have hsz := hB.size
      have hwz := HE.out.size
      cases gk with
      | zero =>
        obtain rfl : k = N + 1 := by omega
        rw [bsR_all] at hG
        have hkl : ¬ (N : Int) + 1 < (N : Int) + 1 := by omega
        have HLN := Lib.hid (bsK_len l n x rows (N + 1))
        have HG := Lib.hid hG
        have HB := Lib.hid (btrans HE.out hB)
        clear hG hB
        go_wp2_with fail
        go_ret2
        rw [HVL.out]
        have h9 := RetGr.yes (rows := bsK l n x rows (N + 1)) (A := some ⟨w2.heap.size, 0, none⟩) (c := N + 1) (us := us) HPL.out (by rw [HLN.out]; exact HG.out) HB.out
        rw [HLN.out] at h9
        exact h9
      | succ g2 =>
        have hlt : k < N + 1 := by omega
        have hlt' : (k : Int) < (N : Int) + 1 := by omega
        obtain ⟨c0, c1⟩ := HCF.out k (by omega)
        have q0 := nearv.cell_keep c0 hB
        have q1 := nearv.cell_keep c1 hB
        have HFR := (HFK.out k).1
        have hb8 : (stF l n x rows k).1 < 256 := Nat.lt_of_lt_of_le HFR (pow_le hn)
        have hby : Below wr.heap.size wr (wr.alloc (.cells #[.int .u64 ((stF l n x rows k).1 : Int), .int .u64 ((stF l n x rows k).2 : Int)] 91)) := (Below.refl _ _).alloc (Nat.le_refl _) _
        have HND := Lib.hid (nodes_any (stF l n x rows k).1 (wr.alloc (.cells #[.int .u64 ((stF l n x rows k).1 : Int), .int .u64 ((stF l n x rows k).2 : Int)] 91)) (by omega))
        have HNN : Hid (nw (bitB (stF l n x rows k).1) 8 = lB l n x rows k) := (nd_bits hn HFR).symm
        rw [HNN.out] at HND
        have HG := Lib.hid (hG.below hby)
        have HBY := Lib.hid (hB.trans (hby.mono hsz))
        have HRS := Lib.hid (bsR_succ l n x rows (m := N + 1) (k := k) hlt)
        have hrl := bsR_len l n x rows (m := N + 1) (k := k) (by omega)
        have HRL := Lib.hid hrl
        obtain ⟨t0, t1, -, -⟩ := (Blk.new wr 91 #[.int .u64 ((stF l n x rows k).1 : Int), .int .u64 ((stF l n x rows k).2 : Int)]).two
        clear hG hB HNN c0 c1 hby HFR hb8 hrl
        generalize lB l n x rows k = LB at *
        generalize (stF l n x rows k).1 = u1 at *
        generalize (stF l n x rows k).2 = s1 at *
        go_wp2_with fail
        refine HND.out.mono ?_
        rintro e w4 ⟨A6, c6, rfl, o5, b5⟩
        have hG4 := HG.out.below b5
        have h1 := hG4.1
        rw [HRL.out] at h1
        have hul := hG4.len
        rw [HRL.out] at hul
        obtain ⟨u0, hu0⟩ : ∃ u, us[k]? = some u := ⟨_, List.getElem?_eq_getElem (by omega)⟩
        have f0 := h1.cellAt k (by omega)
        rw [hu0] at f0
        have z0 := h1.frozenAt k
        have HYS := Lib.hid HBY.out.size
        have HS : Hid (OwnG (w4.setCell ⟨w2.heap.size, k, none⟩ (.slice A6 LB.length c6)) w.heap.size (.slice (some ⟨w2.heap.size, 0, none⟩) (N + 1) (N + 1)) (us.set k (.slice A6 LB.length c6)) (bsR l n x rows (N + 1) (k + 1))) := by
          have h9 : OwnG w4 w.heap.size (.slice (some ⟨w2.heap.size, 0, none⟩) (bsR l n x rows (N + 1) k).length (N + 1)) us (bsR l n x rows (N + 1) k) := by rw [HRL.out]; exact hG4
          have hfr := OwnG.fresh HG.out (own_base o5 (Nat.le_refl _))
          have := OwnG.store h9 (by rw [HRL.out]; exact hlt) (own_base o5 (Nat.le_trans hwz HYS.out)) (fun i x b _ hx hb => hfr i x b hx hb)
          rw [HRS.out, HRL.out] at this
          exact this
        have HB5 := Lib.hid ((HBY.out.trans (b5.mono HYS.out)).setCell (p := ⟨w2.heap.size, k, none⟩) (Nat.le_refl _) (.slice A6 LB.length c6))
        clear hG4 h1 hul b5 o5 hu0 q0 q1 t0 t1
        go_wp2_with fail
        go_roundg g2
        case measure => omega
        case rel => exact ⟨k + 1, _, by omega, by go_num, HS.out, HB5.out⟩
  · have HNO := Lib.hid hpl
    have hmk := HMK.out 0 (by omega)
    have HOM := Lib.hid ((OwnG.made w2 0 (by unfold maxLen; omega)).base HE.out.size)
    rw [Nat.mul_one] at HOM
    have HB0 : Hid (Below w.heap.size w (w2.alloc (.cells (madeCells #[.slice none 0 0] 0) 26))) := HE.out.alloc HE.out.size _
    have HO0 : Hid ((w2.alloc (.cells (madeCells #[.slice none 0 0] 0) 26)).ownsRow w.heap.size 26 1 (.slice (some ⟨w2.heap.size, 0, none⟩) 0 0) 0 []) := HOM.out.1
    rw [show ((0 : Nat) : Int) = 0 from rfl] at hmk
    clear hpl HMK HOM
    go_wp2_with fail
    clear hmk
    go_loopg [28] 0 (fun g iv wr => iv = .int .i64 0 ∧ wr = w2.alloc (.cells (madeCells #[.slice none 0 0] 0) 26))
    case atStart => exact ⟨rfl, rfl⟩
    case round =>
      obtain ⟨rfl, rfl⟩ := hrel
      go_wp2_with fail
      go_ret2
      exact RetGr.no HNO.out HO0.out HB0.out
theorem tneIIB : (3 : TypeId) ≠ 26 := by decide
theorem tneFI : (89 : TypeId) ≠ 26 := by decide
/-- fires stay where a row of rows grows -/
theorem OwnF.apart {w w6 : World} {B C n k x m : Nat} {l : List Ed} {rows : List (List Int)} {v y : Value} {us : List (Value × Value)} {xs : List Value} {o : Obj} (h : OwnF w B n l x rows k v us) (hx : w.ownsRow C 26 1 y m xs) (hg : (w.alloc o).grownBy w6 y.ownBlock) : OwnF w6 B n l x rows k v us := by
  have go : ∀ {t : TypeId} {size q D : Nat} {z : Value} {ys : List Value}, t ≠ 26 → w.ownsRow D t size z q ys → w6.ownsRow D t size z q ys := fun {t size q D z ys} ht ho =>
    (ho.alloc o).kept hg (by
      cases hh : z.ownBlock with
      | none => exact .inl rfl
      | some b => exact .inr (fun e => grid.own_apart ho hx ht b hh e.symm))
  exact ⟨go tneFI h.1, h.2.1, fun j a b hj => ⟨go tneIIB (h.2.2 j a b hj).1, go tneIIB (h.2.2 j a b hj).2⟩⟩
set_option maxHeartbeats 4000000 in
set_option maxRecDepth 100000 in
theorem specBur_any (s start d : Int) (v : Value) (A2 : Option Addr) (c2 : Nat) (us : List Value) (rows : List (List Int)) (l : List Ed) (w : World) (h : Edges w v l) (hl : l.length ≤ 1048576) (hp : ReadsG w (.slice A2 rows.length c2) us rows) (hrl : rows.length ≤ 1048576) (hrr : ∀ r ∈ rows, r.length ≤ 1048576) (hs1 : -9223372036854775808 ≤ s) (hs2 : s ≤ 9223372036854775807) :
    Calls Try.prog 35 #[.agg #[.int .i64 s, v], .int .i64 start, .int .i64 d, .slice A2 rows.length c2] w (RetGr w (PlanP s l start d rows) (burL s l start rows)) := by
  obtain ⟨i1, hi1, hy0, hy1, hy2⟩ := info_parts infoRow
  obtain ⟨A, c, rfl, -⟩ := h.form
  have H := Lib.hid h
  have HP := Lib.hid hp
  have b0 : Below w.heap.size w ((w.alloc (.cells #[.int .i64 s, .slice A l.length c] 29)).alloc (.cells #[] 26)) := ((Below.refl _ _).alloc (Nat.le_refl _) _).alloc (by simp) _
  have g0 := (Blk.new w 29 #[.int .i64 s, .slice A l.length c]).alloc (.cells #[] 26)
  have o0 := own_new0 (w.alloc (.cells #[.int .i64 s, .slice A l.length c] 29)) 26 1
  rw [World.size_alloc] at o0
  obtain ⟨p0, p1, -, -⟩ := g0.two
  have HGD := Lib.hid (l8Good_any s start d _ l _ (h.below b0) hl hs1 hs2)
  have HB0 := Lib.hid b0
  have HG0 := Lib.hid g0
  have HO0 := Lib.hid (own_base (B' := w.heap.size) o0 (Nat.le_add_right _ _))
  clear b0 g0 o0
  by_cases hfp : FireP s l start d
  · rw [okG_yes hfp] at HGD
    have hng := nodesB_iff.1 hfp.1
    have h0 := hng.1.1
    have h8 := hng.1.2.1
    have hst := hng.2 start (by simp)
    obtain ⟨n, rfl⟩ : ∃ n : Nat, s = (n : Int) := ⟨s.toNat, by omega⟩
    obtain ⟨x, rfl⟩ : ∃ x : Nat, start = (x : Int) := ⟨start.toNat, by omega⟩
    have hn : n ≤ 8 := by omega
    have hxn : x < n := by omega
    have HPN := Lib.hid (fun (W : World) (hW : Below w.heap.size w W) => l8Plan_any n x d (.slice A l.length c) A2 c2 us rows l W (H.out.below hW) hl hng.1 hn hxn (HP.out.below hW) hrl hrr)
    by_cases hpl : PlanN n l x d rows
    · rw [okG_yes hpl] at HPN
      have HOK : Hid (PlanP (n : Int) l (x : Int) d rows) := ⟨hfp, by rw [Int.toNat_natCast, Int.toNat_natCast]; exact hpl⟩
      have HBN := Lib.hid (fun (W : World) (hW : Below w.heap.size w W) => l8Burn_any n x (.slice A l.length c) A2 c2 us rows l W (H.out.below hW) hl hn hxn (HP.out.below hW) hpl.1 hrr (fun i hi => (hpl.2 i hi).2.1))
      have HFK := Lib.hid (fun N => st_ok (d := d) (l := l) (rows := rows) hxn (fun i hi => (hpl.2 i hi).2.1) N)
      clear hfp hng hst h hp hrr hpl
      go_enter Try.func35, Try.ntmps35
      go_wp2_with fail
      refine HGD.out.mono ?_
      rintro e w1 ⟨rfl, b1⟩
      have HE1 := Lib.hid (btrans HB0.out b1)
      have HG1 := Lib.hid (HG0.out.below b1 HG0.out.lt)
      have HO1 := Lib.hid (own_below HO0.out b1)
      have HL1 := Lib.hid (HPN.out w1 HE1.out)
      have hz1 := b1.size
      rw [World.size_alloc, World.size_alloc] at hz1
      have HZ1 := Lib.hid hz1
      clear p0 p1 b1 HGD HB0 HG0 HO0 hz1
      obtain ⟨p0, p1, -, -⟩ := HG1.out.two
      go_wp2_with fail
      refine HL1.out.mono ?_
      rintro e w2 ⟨rfl, b2⟩
      have HZ2 := Lib.hid (Nat.le_trans HZ1.out b2.size)
      have HE2 := Lib.hid (btrans HE1.out b2)
      have HG2 := Lib.hid (HG1.out.below b2 HG1.out.lt)
      have HO2 := Lib.hid (own_below HO1.out b2)
      have HL2 := Lib.hid (HBN.out w2 HE2.out)
      clear p0 p1 b2 HE1 HG1 HO1 HL1 HPN HBN
      obtain ⟨p0, p1, -, -⟩ := HG2.out.two
      go_wp2_with fail
      refine HL2.out.mono ?_
      rintro e w3 ⟨N, y, ws, rfl, hen, hN, hof, b3⟩
      obtain ⟨Ax, cx, rfl⟩ := own_form hof.1
      have HV : Hid (burL (n : Int) l (x : Int) rows = bsK l n x rows (N + 1)) := by
        show _ = _
        unfold burL
        rw [Int.toNat_natCast, Int.toNat_natCast, endN_is hen, Nat.min_eq_left (by omega)]
      have HE3 := Lib.hid (btrans HE2.out b3)
      have HOS := Lib.hid hof
      have HW2 := Lib.hid HE2.out.size
      have HO3 : Hid (OwnG w3 w.heap.size (.slice (some ⟨w.heap.size + 1, 0, none⟩) 0 0) [] (bsK l n x rows 0)) := ⟨own_below HO2.out b3, fun i u r hu => by simp at hu, fun i j u u' k _ hu => by simp at hu⟩
      clear hen hof b3 p0 p1 HE2 HG2 HO2 HL2 HFK
      go_wp2_with fail
      go_loopg [10, 12] (N + 1) (fun g ov iv wr => ∃ (k : Nat) (ow : Value) (vs : List Value), ow = ov ∧ k + g = N + 1 ∧ iv = .int .i64 (k : Int) ∧ OwnG wr w.heap.size ow vs (bsK l n x rows k) ∧ OwnF wr w2.heap.size n l x rows N (.slice Ax (N + 1) cx) ws ∧ Below w.heap.size w wr)
      case atStart => exact ⟨0, _, _, rfl, by omega, rfl, HO3.out, HOS.out, HE3.out⟩
      case round =>
        clear HO3 HOS HE3
        obtain ⟨k, ow, vs, rfl, hkg, rfl, hG, hos, hB⟩ := hrel
        obtain ⟨A4, c4, rfl⟩ := own_form hG.1
        have hul := hG.len
        have hlk := bsK_len l n x rows k
        rw [hlk] at hul
        cases gk with
        | zero =>
          obtain rfl : k = N + 1 := by omega
          have hjl : ¬ (N : Int) + 1 < (N : Int) + 1 := by omega
          have HG := Lib.hid hG
          have HB := Lib.hid hB
          clear hG hB hos hul hlk
          go_wp2_with fail
          go_ret2
          rw [HV.out]
          exact RetGr.yes HOK.out HG.out HB.out
        | succ g2 =>
          have hjl : (k : Int) < (N : Int) + 1 := by omega
          obtain ⟨a, b, gs, cs, -, hv, m0, m1, ha, hb⟩ := hos.at_ (j := k) (by omega)
          obtain ⟨rfl, rfl⟩ : Ax = some ⟨gs, 0, none⟩ ∧ cx = cs := by simpa using hv
          obtain ⟨Ab, cb, rfl⟩ := own_form ha
          have hul2 : (lB l n x rows k).length ≤ n := nw_len _ _
          have HOW := Lib.hid (times.l1Own_any (.slice Ab (lB l n x rows k).length cb) (lB l n x rows k) wr (Reads.of_own ha) (by omega))
          have HRS := Lib.hid (bsK_succ l n x rows k)
          have HG := Lib.hid hG
          have HOS := Lib.hid hos
          have HB := Lib.hid hB
          have hsz := hB.size
          have hv8 : vs.length ≤ 41 := by omega
          have hlk8 : (bsK l n x rows k).length ≤ 41 := by omega
          clear hG hos hB hv ha hb hul hlk m1
          generalize lB l n x rows k = bl at *
          go_wp2_with fail
          refine HOW.out.mono ?_
          rintro e w4 ⟨A6, c6, rfl, o6, b6⟩
          have hG4 := (HG.out.below b6).1
          have HS4 := Lib.hid (HOS.out.below b6)
          have HB4 := Lib.hid (btrans HB.out b6)
          have hs4 := HB4.out.size
          clear m0
          go_wp2_with (at_builtin; refine wpList_append_own _ rfl _ _ 40 rfl w.heap.size 26 i1 (.slice none 0 0) 1 24 Try.underlying40 hi1 hy0 hy1 hy2 rfl (by decide) _ _ _ rfl (hG4.alloc _) ⟨w4.heap.size, 0, none⟩ 1 1 [.slice A6 bl.length c6] rfl rfl (cell_one_new _ _ _) (fun x hx => by simp at hx; subst hx; rfl) (by unfold maxLen; omega) (by omega) (by simp; omega) ?_; intro v6 w6 hown6 hgrow6 _)
          have HG6 : Hid (OwnG w6 w.heap.size v6 (vs ++ [.slice A6 bl.length c6]) (bsK l n x rows (k + 1))) := by
            show OwnG _ _ _ _ _
            rw [HRS.out]
            exact OwnG.push HG.out b6 hsz o6 hown6 rfl hgrow6
          have HS6 := Lib.hid (OwnF.apart HS4.out hG4 hgrow6)
          have HB6 := Lib.hid ((HB4.out.alloc hs4 (.cells #[.slice A6 bl.length c6] 26)).grown hgrow6 (by simp; omega) (fun q e => (hG4.lt q e).1))
          clear hown6 hgrow6 hG4 b6 o6
          go_roundg g2
          case measure => omega
          case rel => exact ⟨k + 1, _, _, rfl, by omega, by go_num, HG6.out, HS6.out, HB6.out⟩
    · rw [okG_no hpl] at HPN
      have HNO : Hid (¬ PlanP (n : Int) l (x : Int) d rows) := fun h => hpl (by have := h.2; rwa [Int.toNat_natCast, Int.toNat_natCast] at this)
      clear hfp hng hst h hp hrr hpl
      go_enter Try.func35, Try.ntmps35
      go_wp2_with fail
      refine HGD.out.mono ?_
      rintro e w1 ⟨rfl, b1⟩
      have HE1 := Lib.hid (btrans HB0.out b1)
      have HG1 := Lib.hid (HG0.out.below b1 HG0.out.lt)
      have HO1 := Lib.hid (own_below HO0.out b1)
      have HL1 := Lib.hid (HPN.out w1 HE1.out)
      clear p0 p1 b1 HGD HB0 HG0 HO0
      obtain ⟨p0, p1, -, -⟩ := HG1.out.two
      go_wp2_with fail
      refine HL1.out.mono ?_
      rintro e w2 ⟨rfl, b2⟩
      have HE2 := Lib.hid (btrans HE1.out b2)
      have HO2 := Lib.hid (own_below HO1.out b2)
      go_wp2_with fail
      go_ret2
      exact RetGr.no HNO.out HO2.out HE2.out
  · rw [okG_no hfp] at HGD
    have HNO : Hid (¬ PlanP s l start d rows) := fun h => hfp h.1
    clear hfp h hp hrr
    go_enter Try.func35, Try.ntmps35
    go_wp2_with fail
    refine HGD.out.mono ?_
    rintro e w1 ⟨rfl, b1⟩
    have HE1 := Lib.hid (btrans HB0.out b1)
    have HO1 := Lib.hid (own_below HO0.out b1)
    clear p0 p1 b1
    go_wp2_with fail
    go_ret2
    exact RetGr.no HNO.out HO1.out HE1.out
theorem bur_len (s : Int) (l : List Ed) (start d : Int) (rows : List (List Int)) : gridl.tot (gdG (PlanP s l start d rows) (burL s l start rows)) ≤ 1048576 ∧ (gdG (PlanP s l start d rows) (burL s l start rows)).length ≤ 1048576 := by
  by_cases h : PlanP s l start d rows
  · rw [gdG_yes h]
    have h8 := (nodesB_iff.1 h.1.1).1.2.1
    have h1 := sumB (rows := burL s l start rows) (m := 8) (fun r hr => by
      unfold burL bsK at hr
      obtain ⟨i, _, rfl⟩ := List.mem_map.1 hr
      exact Nat.le_trans (nw_len _ _) (by omega))
    unfold burL at h1 ⊢
    rw [bsK_len] at h1 ⊢
    unfold gridl.tot
    have := Nat.min_le_right (endN l s.toNat start.toNat rows) 20
    omega
  · rw [gdG_no h]; simp [gridl.tot]
end Go.Proofs.Ytbbgbepemnmfdaa.fires
