/- The contracts of the model's l8Good, l8Plan and IsFirePlan. -/
import Derived.Handy
import Derived.Test.YtbbgbepemnmfdaaFirR
namespace Go.Proofs.Ytbbgbepemnmfdaa.fires
open Go.RowKit P2 words edges ints good adjs fns sets rets covs balls bitsI bags ups gridr
set_option linter.unusedVariables false

theorem apL_iff {n : Nat} {f : Fr} {r : List Int} (hr : ∀ y ∈ r, 0 ≤ y ∧ y < (n : Int)) : ApL f.1 f.2 r r.length ↔ apB n f (codeL r) := by
  rw [apB_iff (code_lt (m := n) hr)]
  constructor
  · intro h y hy
    rw [code_bit (fun y hy => (hr y hy).1), decide_eq_true_iff] at hy
    obtain ⟨j, hj⟩ := List.getElem?_of_mem hy
    have := h j _ (List.getElem?_eq_some_iff.1 hj).1 hj
    rwa [Int.toNat_natCast] at this
  · intro h j y hj hy
    refine h y.toNat ?_
    have hm := List.mem_of_getElem? hy
    have := hr y hm
    rw [code_bit (fun y hy => (hr y hy).1), decide_eq_true_iff, Int.toNat_of_nonneg this.1]
    exact hm
theorem fireP_iff {s start d : Int} {l : List Ed} : FireP s l start d ↔ P2.Good s l ∧ inB start 0 (s - 1) = true ∧ inB d 0 3 = true := by
  unfold FireP inB
  rw [nodesB_iff, decide_eq_true_iff, decide_eq_true_iff]
  constructor
  · rintro ⟨⟨h1, h2⟩, h3, h4⟩
    have := h2 start (by simp)
    exact ⟨h1, ⟨this.1, by omega⟩, h3, h4⟩
  · rintro ⟨h1, h2, h3, h4⟩
    exact ⟨⟨h1, fun y hy => by rw [List.mem_singleton] at hy; subst hy; omega⟩, h3, h4⟩
set_option maxHeartbeats 1000000 in
set_option maxRecDepth 100000 in
theorem l8Good_any (s start d : Int) (v : Value) (l : List Ed) (w : World) (h : Edges w v l) (hl : l.length ≤ 1048576) (hs1 : -9223372036854775808 ≤ s) (hs2 : s ≤ 9223372036854775807) :
    Calls Try.prog 72 #[.agg #[.int .i64 s, v], .int .i64 start, .int .i64 d] w fun e w' => e = .returned (.bool (okG (FireP s l start d))) ∧ Below w.heap.size w w' := by
  obtain ⟨A, c, rfl, -⟩ := h.form
  have H := Lib.hid h
  have b0 : Below w.heap.size w (w.alloc (.cells #[.int .i64 s, .slice A l.length c] 29)) := (Below.refl _ _).alloc (Nat.le_refl _) _
  have g0 := Blk.new w 29 #[.int .i64 s, .slice A l.length c]
  obtain ⟨p0, p1, -, -⟩ := g0.two
  have HGD := Lib.hid (l2Good_any s _ l _ (h.below b0) hl hs1 hs2)
  have HB0 := Lib.hid b0
  have HG0 := Lib.hid g0
  clear h b0 g0
  by_cases hgd : P2.Good s l
  · rw [goodB_yes hgd] at HGD
    have h0 := hgd.1
    have h8 := hgd.2.1
    have HND := Lib.hid (fun (W : World) (hW : Below w.heap.size w W) => l2Node_any s start (.slice A l.length c) l W (H.out.below hW) (by omega) (by omega))
    have HIN := Lib.hid (fun (W : World) => l1In_any d 0 3 W)
    cases hn : inB start 0 (s - 1) with
    | true =>
      rw [hn] at HND
      have HV : Hid (okG (FireP s l start d) = inB d 0 3) := by
        show _ = _
        cases hd : inB d 0 3 with
        | true => exact okG_yes (fireP_iff.2 ⟨hgd, hn, hd⟩)
        | false => exact okG_no fun h => by have := (fireP_iff.1 h).2.2; rw [hd] at this; cases this
      clear hgd hn
      go_enter Try.func72, Try.ntmps72
      go_wp2_with fail
      refine HGD.out.mono ?_
      rintro e w1 ⟨rfl, b1⟩
      have HE1 := Lib.hid (btrans HB0.out b1)
      have HG1 := Lib.hid (HG0.out.below b1 HG0.out.lt)
      have HL1 := Lib.hid (HND.out w1 HE1.out)
      clear p0 p1 b1 HGD HB0 HG0
      obtain ⟨p0, p1, -, -⟩ := HG1.out.two
      go_wp2_with fail
      refine HL1.out.mono ?_
      rintro e w2 ⟨rfl, b2⟩
      have HE2 := Lib.hid (btrans HE1.out b2)
      go_wp2_with fail
      refine (HIN.out w2).mono ?_
      rintro e w3 ⟨rfl, rfl⟩
      go_wp2_with fail
      go_ret
      rw [HV.out]
      exact ⟨rfl, HE2.out⟩
    | false =>
      rw [hn] at HND
      have HV : Hid (okG (FireP s l start d) = false) := okG_no fun h => by have := (fireP_iff.1 h).2.1; rw [hn] at this; cases this
      clear hgd hn
      go_enter Try.func72, Try.ntmps72
      go_wp2_with fail
      refine HGD.out.mono ?_
      rintro e w1 ⟨rfl, b1⟩
      have HE1 := Lib.hid (btrans HB0.out b1)
      have HG1 := Lib.hid (HG0.out.below b1 HG0.out.lt)
      have HL1 := Lib.hid (HND.out w1 HE1.out)
      clear p0 p1 b1 HGD HB0 HG0
      obtain ⟨p0, p1, -, -⟩ := HG1.out.two
      go_wp2_with fail
      refine HL1.out.mono ?_
      rintro e w2 ⟨rfl, b2⟩
      have HE2 := Lib.hid (btrans HE1.out b2)
      go_wp2_with fail
      go_ret
      rw [HV.out]
      exact ⟨rfl, HE2.out⟩
  · rw [goodB_no hgd] at HGD
    have HV : Hid (okG (FireP s l start d) = false) := okG_no fun h => hgd (fireP_iff.1 h).1
    clear hgd
    go_enter Try.func72, Try.ntmps72
    go_wp2_with fail
    refine HGD.out.mono ?_
    rintro e w1 ⟨rfl, b1⟩
    have HE1 := Lib.hid (btrans HB0.out b1)
    go_wp2_with fail
    go_ret
    rw [HV.out]
    exact ⟨rfl, HE1.out⟩
theorem nw_one {n x : Nat} (hx : x < n) : nw (bitB (2 ^ x)) n = [(x : Int)] :=
  asc_ext (nw_asc _ _) (by unfold Asc; simp) fun e => by
    rw [mem_nw, List.mem_singleton]
    constructor
    · rintro ⟨j, _, hp, rfl⟩
      unfold bitB at hp
      rw [Nat.testBit_two_pow, decide_eq_true_iff] at hp
      rw [hp]
    · rintro rfl
      exact ⟨x, hx, by unfold bitB; rw [Nat.testBit_two_pow]; simp, rfl⟩
theorem nw_zero (n : Nat) : nw (bitB 0) n = [] := by
  unfold nw
  rw [List.map_eq_nil_iff, List.filter_eq_nil_iff]
  intro y _
  unfold bitB
  simp
def lB (l : List Ed) (n x : Nat) (rows : List (List Int)) (k : Nat) : List Int := nw (bitB (stF l n x rows k).1) n
def lD (l : List Ed) (n x : Nat) (rows : List (List Int)) (k : Nat) : List Int := nw (bitB (stF l n x rows k).2) n
set_option maxHeartbeats 4000000 in
set_option maxRecDepth 100000 in
theorem l8Plan_any (n x : Nat) (d : Int) (v : Value) (A2 : Option Addr) (c2 : Nat) (us : List Value) (rows : List (List Int)) (l : List Ed) (w : World) (h : Edges w v l) (hl : l.length ≤ 1048576) (hg : P2.Good (n : Int) l) (hn : n ≤ 8) (hx : x < n) (hp : ReadsG w (.slice A2 rows.length c2) us rows) (hrl : rows.length ≤ 1048576) (hrr : ∀ r ∈ rows, r.length ≤ 1048576) :
    Calls Try.prog 73 #[.agg #[.int .i64 (n : Int), v], .int .i64 (x : Int), .int .i64 d, .slice A2 rows.length c2] w fun e w' => e = .returned (.bool (okG (PlanN n l x d rows))) ∧ Below w.heap.size w w' := by
  obtain ⟨A, c, rfl, -⟩ := h.form
  have H := Lib.hid h
  have HP := Lib.hid hp
  have HRR := Lib.hid hrr
  have HGD := Lib.hid hg
  have HPL : Hid (PlanN n l x d rows ↔ rows.length ≤ 8 ∧ ∀ i, i < rows.length → RowP n l x d rows i) := Iff.rfl
  have H0B : Hid (lB l n x rows 0 = [(x : Int)]) := nw_one hx
  have H0D : Hid (lD l n x rows 0 = []) := nw_zero n
  go_enter Try.func73, Try.ntmps73
  go_wp2_with fail
  have g1 := ((Blk.new w 29 #[.int .i64 (n : Int), .slice A l.length c]).alloc (.cells #[.int .i64 (x : Int)] 3)).alloc (.cells #[.slice (some ⟨w.heap.size + 1, 0, none⟩) 1 1, .slice none 0 0] 89)
  have g3 := Blk.new ((w.alloc (.cells #[.int .i64 (n : Int), .slice A l.length c] 29)).alloc (.cells #[.int .i64 (x : Int)] 3)) 89 #[.slice (some ⟨w.heap.size + 1, 0, none⟩) 1 1, .slice none 0 0]
  rw [World.size_alloc, World.size_alloc] at g3
  have bx : Below w.heap.size w (((w.alloc (.cells #[.int .i64 (n : Int), .slice A l.length c] 29)).alloc (.cells #[.int .i64 (x : Int)] 3)).alloc (.cells #[.slice (some ⟨w.heap.size + 1, 0, none⟩) 1 1, .slice none 0 0] 89)) := (((Below.refl _ _).alloc (Nat.le_refl _) _).alloc (by simp) _).alloc (by rw [World.size_alloc, World.size_alloc]; exact Nat.le_trans (Nat.le_add_right _ _) (Nat.le_add_right _ _)) _
  have o1 := own_new1 (w.alloc (.cells #[.int .i64 (n : Int), .slice A l.length c] 29)) 3 (x : Int)
  rw [World.size_alloc] at o1
  obtain ⟨wx, hwx⟩ : ∃ wx, wx = ((w.alloc (.cells #[.int .i64 (n : Int), .slice A l.length c] 29)).alloc (.cells #[.int .i64 (x : Int)] 3)).alloc (.cells #[.slice (some ⟨w.heap.size + 1, 0, none⟩) 1 1, .slice none 0 0] 89) := ⟨_, rfl⟩
  have HR50 : Hid (RowI2 wx w.heap.size (.slice (some ⟨w.heap.size + 1, 0, none⟩) (lB l n x rows 0).length 1) (lB l n x rows 0)) := by
    show RowI2 _ _ _ _
    rw [H0B.out, hwx]
    exact own_base (World.ownsRow.alloc o1 _) (Nat.le_add_right _ _)
  have HR60 : Hid (RowI2 wx w.heap.size (.slice none (lD l n x rows 0).length 0) (lD l n x rows 0)) := by
    show RowI2 _ _ _ _
    rw [H0D.out]
    exact World.ownsRow_nil _ _ _ _
  rw [← hwx] at g1 g3 bx ⊢
  have HBP0 : Hid (Blk wx (w.heap.size + 1 + 1) 89 #[.slice (some ⟨w.heap.size + 1, 0, none⟩) (lB l n x rows 0).length 1, .slice none (lD l n x rows 0).length 0]) := by
    show Blk _ _ _ _
    rw [H0B.out, H0D.out]; exact g3
  have HG0 := Lib.hid g1
  have HE0 := Lib.hid bx
  have HK0 : Hid (∀ i, i < 0 → RowP n l x d rows i) := fun i hi => by omega
  obtain ⟨m, hm⟩ : ∃ m, m = min rows.length 8 := ⟨_, rfl⟩
  have hm1 : m ≤ rows.length := by omega
  have hm2 : m ≤ 8 := by omega
  have hm3 : m = rows.length ∨ (m = 8 ∧ 8 < rows.length) := by omega
  clear hm g1 g3 bx o1 hwx h hp hrr hg
  go_loopg [10] m (fun g iv wr => ∃ (k : Nat) (A5 : Option Addr) (c5 : Nat) (A6 : Option Addr) (c6 : Nat), k + g = m ∧ iv = .int .i64 (k : Int) ∧ Hid (∀ i, i < k → RowP n l x d rows i) ∧ Blk wr (w.heap.size + 1 + 1) 89 #[.slice A5 (lB l n x rows k).length c5, .slice A6 (lD l n x rows k).length c6] ∧ RowI2 wr w.heap.size (.slice A5 (lB l n x rows k).length c5) (lB l n x rows k) ∧ RowI2 wr w.heap.size (.slice A6 (lD l n x rows k).length c6) (lD l n x rows k) ∧ Blk wr w.heap.size 29 #[.int .i64 (n : Int), .slice A l.length c] ∧ Below w.heap.size w wr)
  case atStart => exact ⟨0, _, _, _, _, by omega, rfl, HK0, HBP0.out, HR50.out, HR60.out, HG0.out, HE0.out⟩
  case round =>
    clear HK0 HBP0 HR50 HR60 HG0 HE0 H0B H0D
    obtain ⟨k, A5, c5, A6, c6, hkg, rfl, hok, bp, r5, r6, bg, eB⟩ := hrel
    have HBP := Lib.hid bp
    have HR5 := Lib.hid r5
    have HR6 := Lib.hid r6
    have HG := Lib.hid bg
    have HE := Lib.hid eB
    obtain ⟨p0, p1, -, -⟩ := bg.two
    obtain ⟨m0, m1, y0, y1⟩ := bp.two
    cases gk with
    | zero =>
      obtain rfl : k = m := by omega
      clear bp r5 r6 bg eB
      rcases hm3 with hm3 | ⟨rfl, hm4⟩
      · obtain rfl := hm3
        have HV : Hid (okG (PlanN n l x d rows) = true) := okG_yes ⟨hm2, hok.out⟩
        have h8' : (rows.length : Int) ≤ 8 := by omega
        go_wp2_with fail
        go_ret
        exact ⟨ret_bool (by first | (rw [HV.out]; done) | (rw [HV.out]; simp; done) | (rw [HV.out]; simp; omega)), HE.out⟩
      · have HV : Hid (okG (PlanN n l x d rows) = false) := okG_no fun h => by have := h.1; omega
        have h8' : ¬ (rows.length : Int) ≤ 8 := by omega
        have h8'' : (8 : Int) < (rows.length : Int) := by omega
        go_wp2_with fail
        go_ret
        exact ⟨ret_bool (by first | (rw [HV.out]; done) | (rw [HV.out]; simp; done) | (rw [HV.out]; simp; omega)), HE.out⟩
    | succ g2 =>
      have hlt : k < rows.length := by omega
      have hlt' : (k : Int) < (rows.length : Int) := by omega
      have hk8 : (k : Int) < 8 := by omega
      obtain ⟨r, hr⟩ : ∃ r, rows[k]? = some r := ⟨_, List.getElem?_eq_getElem hlt⟩
      have HRK : Hid (rows.getD k [] = r) := by show _ = _; rw [List.getD_eq_getElem?_getD, hr]; rfl
      obtain ⟨u, g5, o5, hu, rfl, q5, hri⟩ := HP.out.row hr
      obtain ⟨A7, c7, rfl, -⟩ := hri.form
      have HRI := Lib.hid hri
      have HRL := Lib.hid (HRR.out r (List.mem_of_getElem? hr))
      have q6 := nearv.cell_keep q5 eB
      have HSK : Hid (∀ W : World, Below wr.heap.size wr W → W.cell? ⟨w.heap.size, 0, none⟩ = some (.int .i64 (n : Int)) ∧ W.cell? ⟨w.heap.size, 1, none⟩ = some (.slice A l.length c) ∧ W.cell? ⟨w.heap.size + 1 + 1, 0, none⟩ = some (.slice A5 (lB l n x rows k).length c5) ∧ W.cell? ⟨w.heap.size + 1 + 1, 1, none⟩ = some (.slice A6 (lD l n x rows k).length c6) ∧ W.cell? ⟨g5, o5 + k, none⟩ = some (.slice A7 r.length c7)) := fun W hW => by
        obtain ⟨a0, a1, -, -⟩ := (HG.out.below hW HG.out.lt).two
        obtain ⟨a2, a3, -, -⟩ := (HBP.out.below hW HBP.out.lt).two
        exact ⟨a0, a1, a2, a3, nearv.cell_keep q6 hW⟩
      have HFK : Hid (FrOk n (stF l n x rows k)) := st_ok' hx k fun j hj _ => (hok.out j hj).2.1
      have HST := Lib.hid (l8Set_any (n : Int) d (.slice A l.length c) (.slice A7 r.length c7) l r wr.drew (H.out.below eB.drew) (HRI.out.below eB.drew) HRL.out (by omega) (by omega) HGD.out)
      have HNP : Hid (∀ h : ¬ RowP n l x d rows k, ¬ PlanN n l x d rows) := fun h hp => h (hp.2 k hlt)
      have HRP : Hid (RowP n l x d rows k ↔ (r.length : Int) ≤ d ∧ SetOk (n : Int) l r ∧ apB n (stF l n x rows k) (codeL r)) := by
        show _ ↔ _
        unfold RowP
        rw [HRK.out]
      by_cases hso : SetOk (n : Int) l r ∧ (r.length : Int) ≤ d
      · rw [okG_yes hso] at HST
        have HAP := Lib.hid (fun (W : World) (hW : Below wr.heap.size wr W) => l8Apart_any n (stF l n x rows k) (.slice A5 (lB l n x rows k).length c5) (.slice A6 (lD l n x rows k).length c6) (.slice A7 r.length c7) r W HFK.out hn ((show Ints wr _ (lB l n x rows k) from Reads.of_own r5).below hW) ((show Ints wr _ (lD l n x rows k) from Reads.of_own r6).below hW) (HRI.out.below (btrans eB hW)) HRL.out (fun y hy => hso.1.2.1 y hy))
        have HAI := Lib.hid (apL_iff (f := stF l n x rows k) (fun y hy => hso.1.2.1 y hy))
        have HSO := Lib.hid hso
        clear hr hu q5 hri bp r5 r6 bg eB hso
        by_cases hap : ApL (stF l n x rows k).1 (stF l n x rows k).2 r r.length
        · rw [okG_yes hap] at HAP
          have HOKN : Hid (∀ i, i < k + 1 → RowP n l x d rows i) := fun i hi => by
            by_cases e : i = k
            · subst e; exact HRP.out.2 ⟨HSO.out.2, HSO.out.1, HAI.out.1 hap⟩
            · exact hok.out i (by omega)
          have HS1 : Hid (stF l n x rows (k + 1) = aftF l n (stF l n x rows k) (codeL r)) := by
            show aftF l n (stF l n x rows k) (if k < rows.length then codeL (rows.getD k []) else 0) = _
            rw [if_pos hlt, HRK.out]
          have HRO0 := Lib.hid (fun (W : World) (hW : Below wr.heap.size wr W) => l8Round_any n (stF l n x rows k) (.slice A l.length c) (.slice A5 (lB l n x rows k).length c5) (.slice A6 (lD l n x rows k).length c6) (.slice A7 r.length c7) l r W (H.out.below (btrans HE.out hW)) hl HFK.out hn ((show Ints wr _ (lB l n x rows k) from Reads.of_own HR5.out).below hW) ((show Ints wr _ (lD l n x rows k) from Reads.of_own HR6.out).below hW) (HRI.out.below (btrans HE.out hW)) HRL.out (fun y hy => HSO.out.1.2.1 y hy))
          rw [← HS1.out] at HRO0
          have HRO : Hid (∀ (W : World) (hW : Below wr.heap.size wr W), Calls Try.prog 114 #[.agg #[.int .i64 (n : Int), .slice A l.length c], .agg #[.slice A5 (lB l n x rows k).length c5, .slice A6 (lD l n x rows k).length c6], .slice A7 r.length c7] W fun e w' => ∃ A1 c1 A3 c3, e = .returned (.agg #[.slice A1 (lB l n x rows (k + 1)).length c1, .slice A3 (lD l n x rows (k + 1)).length c3]) ∧ RowI2 w' W.heap.size (.slice A1 (lB l n x rows (k + 1)).length c1) (lB l n x rows (k + 1)) ∧ RowI2 w' W.heap.size (.slice A3 (lD l n x rows (k + 1)).length c3) (lD l n x rows (k + 1)) ∧ Below W.heap.size W w') := HRO0
          clear HRO0 HS1 hap HAI
          go_wp2_with fail
          refine wp_region_held_drew (S := (fun W : World => W.cell? ⟨w.heap.size, 0, none⟩ = some (.int .i64 (n : Int)) ∧ W.cell? ⟨w.heap.size, 1, none⟩ = some (.slice A l.length c) ∧ W.cell? ⟨w.heap.size + 1 + 1, 0, none⟩ = some (.slice A5 (lB l n x rows k).length c5) ∧ W.cell? ⟨w.heap.size + 1 + 1, 1, none⟩ = some (.slice A6 (lD l n x rows k).length c6) ∧ W.cell? ⟨g5, o5 + k, none⟩ = some (.slice A7 r.length c7))) (by kernel_rfl) (by (try dsimp only); simp [*]) (fun hHeld => ?_)
          change wpAnyH _ _ _ _ _ _ #[false, false, false, false, false, false, false, false, false, false, false, false, false, false, false, false, false] _ _
          refine wpAnyH_take (i := 0) (oi := ⟨some 24, _, _, _, _, _⟩) (v := ?_) rfl (by kernel_rfl) (by kernel_rfl) (by kernel_rfl) (fun _ _ _ h => h) (Or.inl ⟨by rfl, ?_⟩) (by assumption) ?_
          rotate_left
          · (intro w hSw; (try dsimp only at hSw); go_simp; (try (with_reducible rfl)))
          try simp only [Act.put, List.setIfInBounds_toArray, List.set_cons_zero, List.set_cons_succ]
          refine wpAnyH_take (i := 1) (oi := ⟨some 25, _, _, _, _, _⟩) (v := ?_) rfl (by kernel_rfl) (by kernel_rfl) (by kernel_rfl) (fun _ _ _ h => h) (Or.inl ⟨by rfl, ?_⟩) (by assumption) ?_
          rotate_left
          · (intro w hSw; (try dsimp only at hSw); go_simp; (try (with_reducible rfl)))
          try simp only [Act.put, List.setIfInBounds_toArray, List.set_cons_zero, List.set_cons_succ]
          refine wpAnyH_take (i := 2) (oi := ⟨some 26, _, _, _, _, _⟩) (v := ?_) rfl (by kernel_rfl) (by kernel_rfl) (by kernel_rfl) (fun _ _ _ h => h) (Or.inl ⟨by rfl, ?_⟩) (by assumption) ?_
          rotate_left
          · (intro w hSw; (try dsimp only at hSw); go_simp; (try (with_reducible rfl)))
          try simp only [Act.put, List.setIfInBounds_toArray, List.set_cons_zero, List.set_cons_succ]
          refine wpAnyH_take (i := 3) (oi := ⟨some 27, _, _, _, _, _⟩) (v := ?_) rfl (by kernel_rfl) (by kernel_rfl) (by kernel_rfl) (fun _ _ _ h => h) (Or.inl ⟨by rfl, ?_⟩) (by assumption) ?_
          rotate_left
          · (intro w hSw; (try dsimp only at hSw); go_simp; (try (with_reducible rfl)))
          try simp only [Act.put, List.setIfInBounds_toArray, List.set_cons_zero, List.set_cons_succ]
          refine wpAnyH_take (i := 4) (oi := ⟨some 28, _, _, _, _, _⟩) (v := ?_) rfl (by kernel_rfl) (by kernel_rfl) (by kernel_rfl) (fun _ _ _ h => h) (Or.inl ⟨by rfl, ?_⟩) (by assumption) ?_
          rotate_left
          · (intro w hSw; (try dsimp only at hSw); go_simp; (try (with_reducible rfl)))
          try simp only [Act.put, List.setIfInBounds_toArray, List.set_cons_zero, List.set_cons_succ]
          refine wpAnyH_take (i := 5) (oi := ⟨some 29, _, _, _, _, _⟩) (v := ?_) rfl (by kernel_rfl) (by kernel_rfl) (by kernel_rfl) (fun _ _ _ h => h) (Or.inl ⟨by rfl, ?_⟩) (by assumption) ?_
          rotate_left
          · (intro w hSw; (try dsimp only at hSw); go_simp; (try (with_reducible rfl)))
          try simp only [Act.put, List.setIfInBounds_toArray, List.set_cons_zero, List.set_cons_succ]
          refine wpAnyH_ready (rs := [6]) (by kernel_rfl) (by simp) ?_
          refine AllReadyH.cons (o := ⟨some 30, _, _, _, _, _⟩) rfl (fun K hK => ?_) AllReadyH.nil
          go_simp
          refine HST.out.mono ?_; rintro e w4 ⟨rfl, b4⟩; have d4 : Below wr.heap.size wr w4 := btrans (Below.refl _ _).drew b4; obtain ⟨k0, k1, k2, k3, k4⟩ := HSK.out w4 d4
          go_wp2_with fail
          refine hK.out _ _ (by (try dsimp only); simp [*]) (fun hHeld => ?_)
          clear hK K
          try simp only [List.setIfInBounds_toArray, List.set_cons_zero, List.set_cons_succ]
          refine wpAnyH_take (i := 7) (oi := ⟨some 31, _, _, _, _, _⟩) (v := ?_) rfl (by kernel_rfl) (by kernel_rfl) (by kernel_rfl) (fun _ _ _ h => h) (Or.inl ⟨by rfl, ?_⟩) (by assumption) ?_
          rotate_left
          · (intro w hSw; (try dsimp only at hSw); go_simp; (try (with_reducible rfl)))
          try simp only [Act.put, List.setIfInBounds_toArray, List.set_cons_zero, List.set_cons_succ]
          refine wpAnyH_take (i := 8) (oi := ⟨some 32, _, _, _, _, _⟩) (v := ?_) rfl (by kernel_rfl) (by kernel_rfl) (by kernel_rfl) (fun _ _ _ h => h) (Or.inl ⟨by rfl, ?_⟩) (by assumption) ?_
          rotate_left
          · (intro w hSw; (try dsimp only at hSw); go_simp; (try (with_reducible rfl)))
          try simp only [Act.put, List.setIfInBounds_toArray, List.set_cons_zero, List.set_cons_succ]
          refine wpAnyH_take (i := 9) (oi := ⟨some 33, _, _, _, _, _⟩) (v := ?_) rfl (by kernel_rfl) (by kernel_rfl) (by kernel_rfl) (fun _ _ _ h => h) (Or.inl ⟨by rfl, ?_⟩) (by assumption) ?_
          rotate_left
          · (intro w hSw; (try dsimp only at hSw); go_simp; (try (with_reducible rfl)))
          try simp only [Act.put, List.setIfInBounds_toArray, List.set_cons_zero, List.set_cons_succ]
          refine wpAnyH_take (i := 10) (oi := ⟨some 34, _, _, _, _, _⟩) (v := ?_) rfl (by kernel_rfl) (by kernel_rfl) (by kernel_rfl) (fun _ _ _ h => h) (Or.inl ⟨by rfl, ?_⟩) (by assumption) ?_
          rotate_left
          · (intro w hSw; (try dsimp only at hSw); go_simp; (try (with_reducible rfl)))
          try simp only [Act.put, List.setIfInBounds_toArray, List.set_cons_zero, List.set_cons_succ]
          refine wpAnyH_take (i := 11) (oi := ⟨some 35, _, _, _, _, _⟩) (v := ?_) rfl (by kernel_rfl) (by kernel_rfl) (by kernel_rfl) (fun _ _ _ h => h) (Or.inl ⟨by rfl, ?_⟩) (by assumption) ?_
          rotate_left
          · (intro w hSw; (try dsimp only at hSw); go_simp; (try (with_reducible rfl)))
          try simp only [Act.put, List.setIfInBounds_toArray, List.set_cons_zero, List.set_cons_succ]
          refine wpAnyH_take (i := 12) (oi := ⟨some 36, _, _, _, _, _⟩) (v := ?_) rfl (by kernel_rfl) (by kernel_rfl) (by kernel_rfl) (fun _ _ _ h => h) (Or.inl ⟨by rfl, ?_⟩) (by assumption) ?_
          rotate_left
          · (intro w hSw; (try dsimp only at hSw); go_simp; (try (with_reducible rfl)))
          try simp only [Act.put, List.setIfInBounds_toArray, List.set_cons_zero, List.set_cons_succ]
          refine wpAnyH_take (i := 13) (oi := ⟨some 37, _, _, _, _, _⟩) (v := ?_) rfl (by kernel_rfl) (by kernel_rfl) (by kernel_rfl) (fun _ _ _ h => h) (Or.inl ⟨by rfl, ?_⟩) (by assumption) ?_
          rotate_left
          · (intro w hSw; (try dsimp only at hSw); go_simp; (try (with_reducible rfl)))
          try simp only [Act.put, List.setIfInBounds_toArray, List.set_cons_zero, List.set_cons_succ]
          refine wpAnyH_ready (rs := [14]) (by kernel_rfl) (by simp) ?_
          refine AllReadyH.cons (o := ⟨some 38, _, _, _, _, _⟩) rfl (fun K hK => ?_) AllReadyH.nil
          go_simp
          refine (HAP.out w4 d4).mono ?_; rintro e w5 ⟨rfl, b5⟩; have d5 : Below wr.heap.size wr w5 := btrans d4 b5; obtain ⟨k5, k6, k7, k8, k9⟩ := HSK.out w5 d5
          go_wp2_with fail
          refine hK.out _ _ (by (try dsimp only); simp [*]) (fun hHeld => ?_)
          clear hK K
          try simp only [List.setIfInBounds_toArray, List.set_cons_zero, List.set_cons_succ]
          refine wpAnyH_take (i := 15) (oi := ⟨some 39, _, _, _, _, _⟩) (v := ?_) rfl (by kernel_rfl) (by kernel_rfl) (by kernel_rfl) (fun _ _ _ h => h) (Or.inl ⟨by rfl, ?_⟩) (by assumption) ?_
          rotate_left
          · (intro w hSw; (try dsimp only at hSw); go_simp; (try (with_reducible rfl)))
          try simp only [Act.put, List.setIfInBounds_toArray, List.set_cons_zero, List.set_cons_succ]
          refine wpAnyH_take (i := 16) (oi := ⟨some 40, _, _, _, _, _⟩) (v := ?_) rfl (by kernel_rfl) (by kernel_rfl) (by kernel_rfl) (fun _ _ _ h => h) (Or.inl ⟨by rfl, ?_⟩) (by assumption) ?_
          rotate_left
          · (intro w hSw; (try dsimp only at hSw); go_simp; (try (with_reducible rfl)))
          try simp only [Act.put, List.setIfInBounds_toArray, List.set_cons_zero, List.set_cons_succ]
          refine wpAnyH_done (by kernel_rfl) ?_ _
          have HBP5 := Lib.hid (HBP.out.below d5 HBP.out.lt)
          have HG5 := Lib.hid (HG.out.below d5 HG.out.lt)
          have HE5 := Lib.hid (btrans HE.out d5)
          have HZ5 := Lib.hid d5.size
          have HRO5 := Lib.hid (HRO.out w5.drew d5.drew)
          clear k0 k1 k2 k3 k4 b4 b5 d4 d5 hHeld p0 p1 m0 m1 y0 y1 q6 k5 k6 k7 k8 HSK
          obtain ⟨p0, p1, -, -⟩ := HG5.out.two
          obtain ⟨m0, m1, y0, y1⟩ := HBP5.out.two
          go_wp2_with fail
          go_region_with (go_at_call 114; (with_reducible refine HRO5.out.mono ?_); rintro e w6 ⟨A8, c8, A9, c9, rfl, o8, o9, b6⟩; have d6 : Below w5.heap.size w5 w6 := btrans (Below.refl _ _).drew b6; obtain ⟨j0, j1, z0, z1⟩ := (HBP5.out.below d6 HBP5.out.lt).two)
          all_goals
            have b6_ := HBP5.out.below d6 HBP5.out.lt
            have hb1 : Blk (w6.setCell ⟨w.heap.size + 1 + 1, 0, none⟩ (.slice A8 (lB l n x rows (k + 1)).length c8)) (w.heap.size + 1 + 1) 89 #[.slice A8 (lB l n x rows (k + 1)).length c8, .slice A6 (lD l n x rows k).length c6] := by
              have h_ := b6_.set_ 0 (.slice A8 (lB l n x rows (k + 1)).length c8)
              simpa using h_
            have hb2 : Blk ((w6.setCell ⟨w.heap.size + 1 + 1, 0, none⟩ (.slice A8 (lB l n x rows (k + 1)).length c8)).setCell ⟨w.heap.size + 1 + 1, 1, none⟩ (.slice A9 (lD l n x rows (k + 1)).length c9)) (w.heap.size + 1 + 1) 89 #[.slice A8 (lB l n x rows (k + 1)).length c8, .slice A9 (lD l n x rows (k + 1)).length c9] := by
              have h_ := hb1.set_ 1 (.slice A9 (lD l n x rows (k + 1)).length c9)
              simpa using h_
            have HBP7 := Lib.hid hb2
            have HR57 := Lib.hid (RowI2.stored (RowI2.stored (show RowI2 w6 w.heap.size _ _ from own_base o8 (HE5.out.drew).size) b6_ 0 (.slice A8 (lB l n x rows (k + 1)).length c8)) hb1 1 (.slice A9 (lD l n x rows (k + 1)).length c9))
            have HR67 := Lib.hid (RowI2.stored (RowI2.stored (show RowI2 w6 w.heap.size _ _ from own_base o9 (HE5.out.drew).size) b6_ 0 (.slice A8 (lB l n x rows (k + 1)).length c8)) hb1 1 (.slice A9 (lD l n x rows (k + 1)).length c9))
            have HG7 := Lib.hid (((HG5.out.below d6 HG5.out.lt).far (p := ⟨w.heap.size + 1 + 1, 0, none⟩) (by show w.heap.size ≠ w.heap.size + 1 + 1; omega) (.slice A8 (lB l n x rows (k + 1)).length c8)).far (p := ⟨w.heap.size + 1 + 1, 1, none⟩) (by show w.heap.size ≠ w.heap.size + 1 + 1; omega) (.slice A9 (lD l n x rows (k + 1)).length c9))
            have HE7 := Lib.hid (((btrans HE5.out d6).setCell (p := ⟨w.heap.size + 1 + 1, 0, none⟩) (by show w.heap.size ≤ w.heap.size + 1 + 1; omega) (.slice A8 (lB l n x rows (k + 1)).length c8)).setCell (p := ⟨w.heap.size + 1 + 1, 1, none⟩) (by show w.heap.size ≤ w.heap.size + 1 + 1; omega) (.slice A9 (lD l n x rows (k + 1)).length c9))
            clear o8 o9 b6 d6 b6_ hb1 hb2 j0 j1 z0 z1 m0 m1 y0 y1 p0 p1 k9
            generalize (w6.setCell ⟨w.heap.size + 1 + 1, 0, none⟩ (.slice A8 (lB l n x rows (k + 1)).length c8)).setCell ⟨w.heap.size + 1 + 1, 1, none⟩ (.slice A9 (lD l n x rows (k + 1)).length c9) = w7 at *
            go_wp2_with fail
            go_roundg g2
            case measure => omega
            case rel => exact ⟨k + 1, A8, c8, A9, c9, by omega, by go_num, HOKN, HBP7.out, HR57.out, HR67.out, HG7.out, HE7.out⟩
        · rw [okG_no hap] at HAP
          have HV : Hid (okG (PlanN n l x d rows) = false) := okG_no (HNP.out fun h => hap (HAI.out.2 (HRP.out.1 h).2.2))
          clear hap HAI
          go_wp2_with fail
          refine wp_region_held_drew (S := (fun W : World => W.cell? ⟨w.heap.size, 0, none⟩ = some (.int .i64 (n : Int)) ∧ W.cell? ⟨w.heap.size, 1, none⟩ = some (.slice A l.length c) ∧ W.cell? ⟨w.heap.size + 1 + 1, 0, none⟩ = some (.slice A5 (lB l n x rows k).length c5) ∧ W.cell? ⟨w.heap.size + 1 + 1, 1, none⟩ = some (.slice A6 (lD l n x rows k).length c6) ∧ W.cell? ⟨g5, o5 + k, none⟩ = some (.slice A7 r.length c7))) (by kernel_rfl) (by (try dsimp only); simp [*]) (fun hHeld => ?_)
          change wpAnyH _ _ _ _ _ _ #[false, false, false, false, false, false, false, false, false, false, false, false, false, false, false, false, false] _ _
          refine wpAnyH_take (i := 0) (oi := ⟨some 24, _, _, _, _, _⟩) (v := ?_) rfl (by kernel_rfl) (by kernel_rfl) (by kernel_rfl) (fun _ _ _ h => h) (Or.inl ⟨by rfl, ?_⟩) (by assumption) ?_
          rotate_left
          · (intro w hSw; (try dsimp only at hSw); go_simp; (try (with_reducible rfl)))
          try simp only [Act.put, List.setIfInBounds_toArray, List.set_cons_zero, List.set_cons_succ]
          refine wpAnyH_take (i := 1) (oi := ⟨some 25, _, _, _, _, _⟩) (v := ?_) rfl (by kernel_rfl) (by kernel_rfl) (by kernel_rfl) (fun _ _ _ h => h) (Or.inl ⟨by rfl, ?_⟩) (by assumption) ?_
          rotate_left
          · (intro w hSw; (try dsimp only at hSw); go_simp; (try (with_reducible rfl)))
          try simp only [Act.put, List.setIfInBounds_toArray, List.set_cons_zero, List.set_cons_succ]
          refine wpAnyH_take (i := 2) (oi := ⟨some 26, _, _, _, _, _⟩) (v := ?_) rfl (by kernel_rfl) (by kernel_rfl) (by kernel_rfl) (fun _ _ _ h => h) (Or.inl ⟨by rfl, ?_⟩) (by assumption) ?_
          rotate_left
          · (intro w hSw; (try dsimp only at hSw); go_simp; (try (with_reducible rfl)))
          try simp only [Act.put, List.setIfInBounds_toArray, List.set_cons_zero, List.set_cons_succ]
          refine wpAnyH_take (i := 3) (oi := ⟨some 27, _, _, _, _, _⟩) (v := ?_) rfl (by kernel_rfl) (by kernel_rfl) (by kernel_rfl) (fun _ _ _ h => h) (Or.inl ⟨by rfl, ?_⟩) (by assumption) ?_
          rotate_left
          · (intro w hSw; (try dsimp only at hSw); go_simp; (try (with_reducible rfl)))
          try simp only [Act.put, List.setIfInBounds_toArray, List.set_cons_zero, List.set_cons_succ]
          refine wpAnyH_take (i := 4) (oi := ⟨some 28, _, _, _, _, _⟩) (v := ?_) rfl (by kernel_rfl) (by kernel_rfl) (by kernel_rfl) (fun _ _ _ h => h) (Or.inl ⟨by rfl, ?_⟩) (by assumption) ?_
          rotate_left
          · (intro w hSw; (try dsimp only at hSw); go_simp; (try (with_reducible rfl)))
          try simp only [Act.put, List.setIfInBounds_toArray, List.set_cons_zero, List.set_cons_succ]
          refine wpAnyH_take (i := 5) (oi := ⟨some 29, _, _, _, _, _⟩) (v := ?_) rfl (by kernel_rfl) (by kernel_rfl) (by kernel_rfl) (fun _ _ _ h => h) (Or.inl ⟨by rfl, ?_⟩) (by assumption) ?_
          rotate_left
          · (intro w hSw; (try dsimp only at hSw); go_simp; (try (with_reducible rfl)))
          try simp only [Act.put, List.setIfInBounds_toArray, List.set_cons_zero, List.set_cons_succ]
          refine wpAnyH_ready (rs := [6]) (by kernel_rfl) (by simp) ?_
          refine AllReadyH.cons (o := ⟨some 30, _, _, _, _, _⟩) rfl (fun K hK => ?_) AllReadyH.nil
          go_simp
          refine HST.out.mono ?_; rintro e w4 ⟨rfl, b4⟩; have d4 : Below wr.heap.size wr w4 := btrans (Below.refl _ _).drew b4; obtain ⟨k0, k1, k2, k3, k4⟩ := HSK.out w4 d4
          go_wp2_with fail
          refine hK.out _ _ (by (try dsimp only); simp [*]) (fun hHeld => ?_)
          clear hK K
          try simp only [List.setIfInBounds_toArray, List.set_cons_zero, List.set_cons_succ]
          refine wpAnyH_take (i := 7) (oi := ⟨some 31, _, _, _, _, _⟩) (v := ?_) rfl (by kernel_rfl) (by kernel_rfl) (by kernel_rfl) (fun _ _ _ h => h) (Or.inl ⟨by rfl, ?_⟩) (by assumption) ?_
          rotate_left
          · (intro w hSw; (try dsimp only at hSw); go_simp; (try (with_reducible rfl)))
          try simp only [Act.put, List.setIfInBounds_toArray, List.set_cons_zero, List.set_cons_succ]
          refine wpAnyH_take (i := 8) (oi := ⟨some 32, _, _, _, _, _⟩) (v := ?_) rfl (by kernel_rfl) (by kernel_rfl) (by kernel_rfl) (fun _ _ _ h => h) (Or.inl ⟨by rfl, ?_⟩) (by assumption) ?_
          rotate_left
          · (intro w hSw; (try dsimp only at hSw); go_simp; (try (with_reducible rfl)))
          try simp only [Act.put, List.setIfInBounds_toArray, List.set_cons_zero, List.set_cons_succ]
          refine wpAnyH_take (i := 9) (oi := ⟨some 33, _, _, _, _, _⟩) (v := ?_) rfl (by kernel_rfl) (by kernel_rfl) (by kernel_rfl) (fun _ _ _ h => h) (Or.inl ⟨by rfl, ?_⟩) (by assumption) ?_
          rotate_left
          · (intro w hSw; (try dsimp only at hSw); go_simp; (try (with_reducible rfl)))
          try simp only [Act.put, List.setIfInBounds_toArray, List.set_cons_zero, List.set_cons_succ]
          refine wpAnyH_take (i := 10) (oi := ⟨some 34, _, _, _, _, _⟩) (v := ?_) rfl (by kernel_rfl) (by kernel_rfl) (by kernel_rfl) (fun _ _ _ h => h) (Or.inl ⟨by rfl, ?_⟩) (by assumption) ?_
          rotate_left
          · (intro w hSw; (try dsimp only at hSw); go_simp; (try (with_reducible rfl)))
          try simp only [Act.put, List.setIfInBounds_toArray, List.set_cons_zero, List.set_cons_succ]
          refine wpAnyH_take (i := 11) (oi := ⟨some 35, _, _, _, _, _⟩) (v := ?_) rfl (by kernel_rfl) (by kernel_rfl) (by kernel_rfl) (fun _ _ _ h => h) (Or.inl ⟨by rfl, ?_⟩) (by assumption) ?_
          rotate_left
          · (intro w hSw; (try dsimp only at hSw); go_simp; (try (with_reducible rfl)))
          try simp only [Act.put, List.setIfInBounds_toArray, List.set_cons_zero, List.set_cons_succ]
          refine wpAnyH_take (i := 12) (oi := ⟨some 36, _, _, _, _, _⟩) (v := ?_) rfl (by kernel_rfl) (by kernel_rfl) (by kernel_rfl) (fun _ _ _ h => h) (Or.inl ⟨by rfl, ?_⟩) (by assumption) ?_
          rotate_left
          · (intro w hSw; (try dsimp only at hSw); go_simp; (try (with_reducible rfl)))
          try simp only [Act.put, List.setIfInBounds_toArray, List.set_cons_zero, List.set_cons_succ]
          refine wpAnyH_take (i := 13) (oi := ⟨some 37, _, _, _, _, _⟩) (v := ?_) rfl (by kernel_rfl) (by kernel_rfl) (by kernel_rfl) (fun _ _ _ h => h) (Or.inl ⟨by rfl, ?_⟩) (by assumption) ?_
          rotate_left
          · (intro w hSw; (try dsimp only at hSw); go_simp; (try (with_reducible rfl)))
          try simp only [Act.put, List.setIfInBounds_toArray, List.set_cons_zero, List.set_cons_succ]
          refine wpAnyH_ready (rs := [14]) (by kernel_rfl) (by simp) ?_
          refine AllReadyH.cons (o := ⟨some 38, _, _, _, _, _⟩) rfl (fun K hK => ?_) AllReadyH.nil
          go_simp
          refine (HAP.out w4 d4).mono ?_; rintro e w5 ⟨rfl, b5⟩; have d5 : Below wr.heap.size wr w5 := btrans d4 b5; obtain ⟨k5, k6, k7, k8, k9⟩ := HSK.out w5 d5
          go_wp2_with fail
          refine hK.out _ _ (by (try dsimp only); simp [*]) (fun hHeld => ?_)
          clear hK K
          try simp only [List.setIfInBounds_toArray, List.set_cons_zero, List.set_cons_succ]
          refine wpAnyH_take (i := 15) (oi := ⟨some 39, _, _, _, _, _⟩) (v := ?_) rfl (by kernel_rfl) (by kernel_rfl) (by kernel_rfl) (fun _ _ _ h => h) (Or.inl ⟨by rfl, ?_⟩) (by assumption) ?_
          rotate_left
          · (intro w hSw; (try dsimp only at hSw); go_simp; (try (with_reducible rfl)))
          try simp only [Act.put, List.setIfInBounds_toArray, List.set_cons_zero, List.set_cons_succ]
          refine wpAnyH_take (i := 16) (oi := ⟨some 40, _, _, _, _, _⟩) (v := ?_) rfl (by kernel_rfl) (by kernel_rfl) (by kernel_rfl) (fun _ _ _ h => h) (Or.inl ⟨by rfl, ?_⟩) (by assumption) ?_
          rotate_left
          · (intro w hSw; (try dsimp only at hSw); go_simp; (try (with_reducible rfl)))
          try simp only [Act.put, List.setIfInBounds_toArray, List.set_cons_zero, List.set_cons_succ]
          refine wpAnyH_done (by kernel_rfl) ?_ _
          have HE5 := Lib.hid (btrans HE.out d5)
          clear k0 k1 k2 k3 k4 b4 b5 d4 d5 hHeld p0 p1 m0 m1 y0 y1 q6 k5 k6 k7 k8 k9 HSK
          go_wp2_with fail
          go_ret
          rw [HV.out]
          exact ⟨rfl, HE5.out⟩
      · rw [okG_no hso] at HST
        have HV : Hid (okG (PlanN n l x d rows) = false) := okG_no (HNP.out fun h => hso ⟨(HRP.out.1 h).2.1, (HRP.out.1 h).1⟩)
        clear hr hu q5 hri bp r5 r6 bg eB hso
        go_wp2_with fail
        refine wp_region_held_drew (S := (fun W : World => W.cell? ⟨w.heap.size, 0, none⟩ = some (.int .i64 (n : Int)) ∧ W.cell? ⟨w.heap.size, 1, none⟩ = some (.slice A l.length c) ∧ W.cell? ⟨w.heap.size + 1 + 1, 0, none⟩ = some (.slice A5 (lB l n x rows k).length c5) ∧ W.cell? ⟨w.heap.size + 1 + 1, 1, none⟩ = some (.slice A6 (lD l n x rows k).length c6) ∧ W.cell? ⟨g5, o5 + k, none⟩ = some (.slice A7 r.length c7))) (by kernel_rfl) (by (try dsimp only); simp [*]) (fun hHeld => ?_)
        change wpAnyH _ _ _ _ _ _ #[false, false, false, false, false, false, false, false, false, false, false, false, false, false, false, false, false] _ _
        refine wpAnyH_take (i := 0) (oi := ⟨some 24, _, _, _, _, _⟩) (v := ?_) rfl (by kernel_rfl) (by kernel_rfl) (by kernel_rfl) (fun _ _ _ h => h) (Or.inl ⟨by rfl, ?_⟩) (by assumption) ?_
        rotate_left
        · (intro w hSw; (try dsimp only at hSw); go_simp; (try (with_reducible rfl)))
        try simp only [Act.put, List.setIfInBounds_toArray, List.set_cons_zero, List.set_cons_succ]
        refine wpAnyH_take (i := 1) (oi := ⟨some 25, _, _, _, _, _⟩) (v := ?_) rfl (by kernel_rfl) (by kernel_rfl) (by kernel_rfl) (fun _ _ _ h => h) (Or.inl ⟨by rfl, ?_⟩) (by assumption) ?_
        rotate_left
        · (intro w hSw; (try dsimp only at hSw); go_simp; (try (with_reducible rfl)))
        try simp only [Act.put, List.setIfInBounds_toArray, List.set_cons_zero, List.set_cons_succ]
        refine wpAnyH_take (i := 2) (oi := ⟨some 26, _, _, _, _, _⟩) (v := ?_) rfl (by kernel_rfl) (by kernel_rfl) (by kernel_rfl) (fun _ _ _ h => h) (Or.inl ⟨by rfl, ?_⟩) (by assumption) ?_
        rotate_left
        · (intro w hSw; (try dsimp only at hSw); go_simp; (try (with_reducible rfl)))
        try simp only [Act.put, List.setIfInBounds_toArray, List.set_cons_zero, List.set_cons_succ]
        refine wpAnyH_take (i := 3) (oi := ⟨some 27, _, _, _, _, _⟩) (v := ?_) rfl (by kernel_rfl) (by kernel_rfl) (by kernel_rfl) (fun _ _ _ h => h) (Or.inl ⟨by rfl, ?_⟩) (by assumption) ?_
        rotate_left
        · (intro w hSw; (try dsimp only at hSw); go_simp; (try (with_reducible rfl)))
        try simp only [Act.put, List.setIfInBounds_toArray, List.set_cons_zero, List.set_cons_succ]
        refine wpAnyH_take (i := 4) (oi := ⟨some 28, _, _, _, _, _⟩) (v := ?_) rfl (by kernel_rfl) (by kernel_rfl) (by kernel_rfl) (fun _ _ _ h => h) (Or.inl ⟨by rfl, ?_⟩) (by assumption) ?_
        rotate_left
        · (intro w hSw; (try dsimp only at hSw); go_simp; (try (with_reducible rfl)))
        try simp only [Act.put, List.setIfInBounds_toArray, List.set_cons_zero, List.set_cons_succ]
        refine wpAnyH_take (i := 5) (oi := ⟨some 29, _, _, _, _, _⟩) (v := ?_) rfl (by kernel_rfl) (by kernel_rfl) (by kernel_rfl) (fun _ _ _ h => h) (Or.inl ⟨by rfl, ?_⟩) (by assumption) ?_
        rotate_left
        · (intro w hSw; (try dsimp only at hSw); go_simp; (try (with_reducible rfl)))
        try simp only [Act.put, List.setIfInBounds_toArray, List.set_cons_zero, List.set_cons_succ]
        refine wpAnyH_ready (rs := [6]) (by kernel_rfl) (by simp) ?_
        refine AllReadyH.cons (o := ⟨some 30, _, _, _, _, _⟩) rfl (fun K hK => ?_) AllReadyH.nil
        go_simp
        refine HST.out.mono ?_; rintro e w4 ⟨rfl, b4⟩; have d4 : Below wr.heap.size wr w4 := btrans (Below.refl _ _).drew b4; obtain ⟨k0, k1, k2, k3, k4⟩ := HSK.out w4 d4
        go_wp2_with fail
        refine hK.out _ _ (by (try dsimp only); simp [*]) (fun hHeld => ?_)
        clear hK K
        try simp only [List.setIfInBounds_toArray, List.set_cons_zero, List.set_cons_succ]
        refine wpAnyH_take (i := 7) (oi := ⟨some 31, _, _, _, _, _⟩) (v := ?_) rfl (by kernel_rfl) (by kernel_rfl) (by kernel_rfl) (fun _ _ _ h => h) (Or.inl ⟨by rfl, ?_⟩) (by assumption) ?_
        rotate_left
        · (intro w hSw; (try dsimp only at hSw); go_simp; (try (with_reducible rfl)))
        try simp only [Act.put, List.setIfInBounds_toArray, List.set_cons_zero, List.set_cons_succ]
        refine wpAnyH_take (i := 8) (oi := ⟨some 32, _, _, _, _, _⟩) (v := ?_) rfl (by kernel_rfl) (by kernel_rfl) (by kernel_rfl) (fun _ _ _ h => h) (Or.inl ⟨by rfl, ?_⟩) (by assumption) ?_
        rotate_left
        · (intro w hSw; (try dsimp only at hSw); go_simp; (try (with_reducible rfl)))
        try simp only [Act.put, List.setIfInBounds_toArray, List.set_cons_zero, List.set_cons_succ]
        refine wpAnyH_take (i := 9) (oi := ⟨some 33, _, _, _, _, _⟩) (v := undef) rfl (by kernel_rfl) (by kernel_rfl) (by kernel_rfl) (fun _ _ _ h => h) (Or.inr ⟨by rfl, rfl⟩) (by assumption) ?_
        try simp only [Act.put, List.setIfInBounds_toArray, List.set_cons_zero, List.set_cons_succ]
        refine wpAnyH_take (i := 10) (oi := ⟨some 34, _, _, _, _, _⟩) (v := undef) rfl (by kernel_rfl) (by kernel_rfl) (by kernel_rfl) (fun _ _ _ h => h) (Or.inr ⟨by rfl, rfl⟩) (by assumption) ?_
        try simp only [Act.put, List.setIfInBounds_toArray, List.set_cons_zero, List.set_cons_succ]
        refine wpAnyH_take (i := 11) (oi := ⟨some 35, _, _, _, _, _⟩) (v := undef) rfl (by kernel_rfl) (by kernel_rfl) (by kernel_rfl) (fun _ _ _ h => h) (Or.inr ⟨by rfl, rfl⟩) (by assumption) ?_
        try simp only [Act.put, List.setIfInBounds_toArray, List.set_cons_zero, List.set_cons_succ]
        refine wpAnyH_take (i := 12) (oi := ⟨some 36, _, _, _, _, _⟩) (v := undef) rfl (by kernel_rfl) (by kernel_rfl) (by kernel_rfl) (fun _ _ _ h => h) (Or.inr ⟨by rfl, rfl⟩) (by assumption) ?_
        try simp only [Act.put, List.setIfInBounds_toArray, List.set_cons_zero, List.set_cons_succ]
        refine wpAnyH_take (i := 13) (oi := ⟨some 37, _, _, _, _, _⟩) (v := undef) rfl (by kernel_rfl) (by kernel_rfl) (by kernel_rfl) (fun _ _ _ h => h) (Or.inr ⟨by rfl, rfl⟩) (by assumption) ?_
        try simp only [Act.put, List.setIfInBounds_toArray, List.set_cons_zero, List.set_cons_succ]
        refine wpAnyH_take (i := 14) (oi := ⟨some 38, _, _, _, _, _⟩) (v := undef) rfl (by kernel_rfl) (by kernel_rfl) (by kernel_rfl) (fun _ _ _ h => h) (Or.inr ⟨by rfl, rfl⟩) (by assumption) ?_
        try simp only [Act.put, List.setIfInBounds_toArray, List.set_cons_zero, List.set_cons_succ]
        refine wpAnyH_take (i := 15) (oi := ⟨some 39, _, _, _, _, _⟩) (v := undef) rfl (by kernel_rfl) (by kernel_rfl) (by kernel_rfl) (fun _ _ _ h => h) (Or.inr ⟨by rfl, rfl⟩) (by assumption) ?_
        try simp only [Act.put, List.setIfInBounds_toArray, List.set_cons_zero, List.set_cons_succ]
        refine wpAnyH_take (i := 16) (oi := ⟨some 40, _, _, _, _, _⟩) (v := ?_) rfl (by kernel_rfl) (by kernel_rfl) (by kernel_rfl) (fun _ _ _ h => h) (Or.inl ⟨by rfl, ?_⟩) (by assumption) ?_
        rotate_left
        · (intro w hSw; (try dsimp only at hSw); go_simp; (try (with_reducible rfl)))
        try simp only [Act.put, List.setIfInBounds_toArray, List.set_cons_zero, List.set_cons_succ]
        refine wpAnyH_done (by kernel_rfl) ?_ _
        have HE5 := Lib.hid (btrans HE.out d4)
        clear k0 k1 k2 k3 k4 b4 d4 hHeld p0 p1 m0 m1 y0 y1 q6 HSK
        go_wp2_with fail
        go_ret
        rw [HV.out]
        exact ⟨rfl, HE5.out⟩
set_option maxHeartbeats 1000000 in
set_option maxRecDepth 100000 in
theorem specFip_any (s start d : Int) (v : Value) (A2 : Option Addr) (c2 : Nat) (us : List Value) (rows : List (List Int)) (l : List Ed) (w : World) (h : Edges w v l) (hl : l.length ≤ 1048576) (hp : ReadsG w (.slice A2 rows.length c2) us rows) (hrl : rows.length ≤ 1048576) (hrr : ∀ r ∈ rows, r.length ≤ 1048576) (hs1 : -9223372036854775808 ≤ s) (hs2 : s ≤ 9223372036854775807) :
    Calls Try.prog 31 #[.agg #[.int .i64 s, v], .int .i64 start, .int .i64 d, .slice A2 rows.length c2] w fun e w' => e = .returned (.tuple #[.bool (okG (PlanP s l start d rows)), .bool (okG (FireP s l start d))]) ∧ Below w.heap.size w w' := by
  obtain ⟨A, c, rfl, -⟩ := h.form
  have H := Lib.hid h
  have HP := Lib.hid hp
  have b0 : Below w.heap.size w (w.alloc (.cells #[.int .i64 s, .slice A l.length c] 29)) := (Below.refl _ _).alloc (Nat.le_refl _) _
  have g0 := Blk.new w 29 #[.int .i64 s, .slice A l.length c]
  obtain ⟨p0, p1, -, -⟩ := g0.two
  have HGD := Lib.hid (l8Good_any s start d _ l _ (h.below b0) hl hs1 hs2)
  have HB0 := Lib.hid b0
  have HG0 := Lib.hid g0
  by_cases hfp : FireP s l start d
  · rw [okG_yes hfp] at HGD
    have hng := nodesB_iff.1 hfp.1
    have h0 := hng.1.1
    have h8 := hng.1.2.1
    have hst := hng.2 start (by simp)
    obtain ⟨n, rfl⟩ : ∃ n : Nat, s = (n : Int) := ⟨s.toNat, by omega⟩
    obtain ⟨x, rfl⟩ : ∃ x : Nat, start = (x : Int) := ⟨start.toNat, by omega⟩
    have HPN := Lib.hid (fun (W : World) (hW : Below w.heap.size w W) => l8Plan_any n x d (.slice A l.length c) A2 c2 us rows l W (H.out.below hW) hl hng.1 (by omega) (by omega) (HP.out.below hW) hrl hrr)
    have HV1 : Hid (okG (PlanP (n : Int) l (x : Int) d rows) = okG (PlanN n l x d rows)) := by
      show _ = _
      by_cases hpl : PlanN n l x d rows
      · rw [okG_yes hpl]; exact okG_yes ⟨hfp, by rw [Int.toNat_natCast, Int.toNat_natCast]; exact hpl⟩
      · rw [okG_no hpl]; exact okG_no fun h => hpl (by have := h.2; rwa [Int.toNat_natCast, Int.toNat_natCast] at this)
    have HV2 := Lib.hid (okG_yes hfp)
    clear hfp hng hst h hp hrr b0 g0
    go_enter Try.func31, Try.ntmps31
    go_wp2_with fail
    refine HGD.out.mono ?_
    rintro e w1 ⟨rfl, b1⟩
    have HE1 := Lib.hid (btrans HB0.out b1)
    have HG1 := Lib.hid (HG0.out.below b1 HG0.out.lt)
    have HL1 := Lib.hid (HPN.out w1 HE1.out)
    clear p0 p1 b1 HGD HB0 HG0
    obtain ⟨p0, p1, -, -⟩ := HG1.out.two
    go_wp2_with fail
    refine HL1.out.mono ?_
    rintro e w2 ⟨rfl, b2⟩
    have HE2 := Lib.hid (btrans HE1.out b2)
    go_wp2_with fail
    go_ret2
    rw [HV1.out, HV2.out]
    exact ⟨rfl, HE2.out⟩
  · rw [okG_no hfp] at HGD
    have HV1 := Lib.hid (okG_no (fun h : PlanP s l start d rows => hfp h.1))
    have HV2 := Lib.hid (okG_no hfp)
    clear hfp h hp hrr b0 g0
    go_enter Try.func31, Try.ntmps31
    go_wp2_with fail
    refine HGD.out.mono ?_
    rintro e w1 ⟨rfl, b1⟩
    have HE1 := Lib.hid (btrans HB0.out b1)
    clear p0 p1 b1
    go_wp2_with fail
    go_ret2
    rw [HV1.out, HV2.out]
    exact ⟨rfl, HE1.out⟩
end Go.Proofs.Ytbbgbepemnmfdaa.fires
