/- The contracts of the model's l8Next and l8Good. -/
import Derived.Handy
import Derived.Test.YtbbgbepemnmfdaaFireS
namespace Go.Proofs.Ytbbgbepemnmfdaa.fires
open Go.RowKit P2 words edges ints good adjs fns sets rets covs balls bitsI bags ups gridr
set_option linter.unusedVariables false

def thB (l : List Ed) (n b d : Nat) (y : Nat) : Bool := arB l n b y && !bitB b y && !bitB d y
def nxB (l : List Ed) (n b d x : Nat) (q : Bool) (y : Nat) : Bool := (decide (y < x) && thB l n b d y) || (q && decide (y = x))
theorem nx_zero (l : List Ed) (n b d m : Nat) : nw (nxB l n b d 0 false) m = [] := by
  unfold nw
  rw [List.map_eq_nil_iff, List.filter_eq_nil_iff]
  intro y hy
  unfold nxB
  simp
theorem nx_skip {l : List Ed} {n b d x : Nat} (h : thB l n b d x = false) (m : Nat) : nw (nxB l n b d x false) m = nw (nxB l n b d (x + 1) false) m := nw_congr fun y hy => by
  unfold nxB
  by_cases e : y = x
  · subst e; simp [h]
  · have : decide (y < x) = decide (y < x + 1) := by rw [decide_eq_decide]; omega
    rw [this]; simp
theorem nx_done {l : List Ed} {n b d x : Nat} {q : Bool} (h : q = thB l n b d x) (m : Nat) : nw (nxB l n b d x q) m = nw (nxB l n b d (x + 1) false) m := nw_congr fun y hy => by
  unfold nxB
  by_cases e : y = x
  · subst e; simp [h]
  · have : decide (y < x) = decide (y < x + 1) := by rw [decide_eq_decide]; omega
    rw [this]; simp [e]
theorem nx_put {l : List Ed} {n b d x : Nat} {q : Bool} {L : List Int} (hx : x < n) (h : PutI (nw (nxB l n b d x q) n) (x : Int) L) : L = nw (nxB l n b d x true) n :=
  asc_ext h.1 (nw_asc _ _) fun e => by
    rw [h.2.1 e, mem_nw, mem_nw]
    constructor
    · rintro (rfl | ⟨j, hj, hp, rfl⟩)
      · exact ⟨x, hx, by unfold nxB; simp, rfl⟩
      · refine ⟨j, hj, ?_, rfl⟩
        unfold nxB at hp ⊢
        cases q with
        | true => exact hp
        | false => simp at hp; simp [hp]
    · rintro ⟨j, hj, hp, rfl⟩
      by_cases e : j = x
      · exact .inl (by rw [e])
      · refine .inr ⟨j, hj, ?_, rfl⟩
        unfold nxB at hp ⊢
        simp [e] at hp
        simp [hp]
theorem nx_all {l : List Ed} {n b d : Nat} : nw (nxB l n b d n false) n = nw (bitB (thrN l n b d)) n := nw_congr fun y hy => by
  unfold nxB bitB thrN
  rw [numOf_bit]
  unfold thB bitB
  simp [hy]
def NxQ (l : List Ed) (b n x k : Nat) (q : Bool) : Prop := q = true ↔ ∃ j y, j < k ∧ (nw (bitB b) n)[j]? = some y ∧ adj l y (x : Int) = true
theorem NxQ.zero (l : List Ed) (b n x : Nat) : NxQ l b n x 0 false := by
  refine ⟨fun h => (by cases h), ?_⟩
  rintro ⟨j, _, hj, _⟩
  omega
theorem NxQ.yes {l : List Ed} {b n x k : Nat} {y : Int} (hy : (nw (bitB b) n)[k]? = some y) (ha : adj l y (x : Int) = true) : NxQ l b n x (k + 1) true := ⟨fun _ => ⟨k, y, by omega, hy, ha⟩, fun _ => rfl⟩
theorem NxQ.no {l : List Ed} {b n x k : Nat} {q : Bool} {y : Int} (h : NxQ l b n x k q) (hy : (nw (bitB b) n)[k]? = some y) (ha : adj l y (x : Int) = false) : NxQ l b n x (k + 1) q := by
  unfold NxQ
  rw [show q = true ↔ _ from h]
  constructor
  · rintro ⟨j, z, hj, hz, hh⟩; exact ⟨j, z, by omega, hz, hh⟩
  · rintro ⟨j, z, hj, hz, hh⟩
    by_cases e : j = k
    · subst e; rw [hy] at hz; cases hz; rw [ha] at hh; cases hh
    · exact ⟨j, z, by omega, hz, hh⟩
theorem NxQ.all {l : List Ed} {b d n x : Nat} {q : Bool} (h : NxQ l b n x (nw (bitB b) n).length q) (hb : b.testBit x = false) (hd : d.testBit x = false) : q = thB l n b d x := by
  rw [Bool.eq_iff_iff, show q = true ↔ _ from h]
  unfold thB bitB
  rw [hb, hd]
  simp only [Bool.not_false, Bool.and_true]
  rw [arB_iff]
  constructor
  · rintro ⟨j, y, hj, hy, ha⟩
    obtain ⟨z, hz, hp, rfl⟩ := mem_nw.1 (List.mem_of_getElem? hy)
    exact ⟨z, hz, hp, .inr ha⟩
  · rintro ⟨z, hz, hp, h2⟩
    rcases h2 with rfl | ha
    · rw [hb] at hp; cases hp
    · obtain ⟨j, hj⟩ := List.getElem?_of_mem (mem_nw.2 ⟨z, hz, hp, rfl⟩ : ((z : Nat) : Int) ∈ nw (bitB b) n)
      exact ⟨j, _, (List.getElem?_eq_some_iff.1 hj).1, hj, ha⟩
set_option maxHeartbeats 4000000 in
set_option maxRecDepth 100000 in
theorem l8Next_any (n : Nat) (f : Fr) (v Bv Dv : Value) (l : List Ed) (w : World) (h : Edges w v l) (hl : l.length ≤ 1048576) (hf : FrOk n f) (hn : n ≤ 8) (hb : Ints w Bv (nw (bitB f.1) n)) (hd : Ints w Dv (nw (bitB f.2) n)) :
    Calls Try.prog 121 #[.agg #[.int .i64 (n : Int), v], .agg #[Bv, Dv]] w (RowI w (nw (bitB (thrN l n f.1 f.2)) n)) := by
  obtain ⟨b, d⟩ := f
  have hb2 : b < 2 ^ n := hf.1
  have hd2 : d < 2 ^ n := hf.2
  change Ints w Bv (nw (bitB b) n) at hb
  change Ints w Dv (nw (bitB d) n) at hd
  show Calls _ _ _ _ (RowI w (nw (bitB (thrN l n b d)) n))
  obtain ⟨A, c, rfl, -⟩ := h.form
  obtain ⟨A1, c1, rfl, hc1⟩ := hb.form
  obtain ⟨A3, c3, rfl, -⟩ := hd.form
  have H := Lib.hid h
  have HB := Lib.hid hb
  have HD := Lib.hid hd
  have HC1 := Lib.hid hc1
  have hnl1 := nw_len (bitB b) n
  have hnl2 := nw_len (bitB d) n
  have HMB := Lib.hid (fun (y : Nat) => mem_bits (y := y) hb2)
  have HMD := Lib.hid (fun (y : Nat) => mem_bits (y := y) hd2)
  have HNX := Lib.hid (nx_all (l := l) (n := n) (b := b) (d := d))
  have HSK := Lib.hid (fun (x : Nat) (h : thB l n b d x = false) => nx_skip h n)
  have HDN := Lib.hid (fun (x : Nat) (q : Bool) (h : q = thB l n b d x) => nx_done h n)
  have HQA := Lib.hid (fun (x : Nat) (q : Bool) (h : NxQ l b n x (nw (bitB b) n).length q) => NxQ.all (d := d) h)
  have HQY := Lib.hid (fun (x k : Nat) (y : Int) => NxQ.yes (l := l) (b := b) (n := n) (x := x) (k := k) (y := y))
  have HQN := Lib.hid (fun (x k : Nat) (q : Bool) (y : Int) => NxQ.no (l := l) (b := b) (n := n) (x := x) (k := k) (q := q) (y := y))
  have HQZ := Lib.hid (fun (x : Nat) => NxQ.zero l b n x)
  have HTB : Hid (∀ x, b.testBit x = true ∨ d.testBit x = true → thB l n b d x = false) := fun x hx => by
    unfold thB bitB
    rcases hx with hx | hx <;> rw [hx] <;> simp
  have b0 : Below w.heap.size w (((w.alloc (.cells #[.int .i64 (n : Int), .slice A l.length c] 29)).alloc (.cells #[.slice A1 (nw (bitB b) n).length c1, .slice A3 (nw (bitB d) n).length c3] 89)).alloc (.cells #[] 3)) := (((Below.refl _ _).alloc (Nat.le_refl _) _).alloc (by simp) _).alloc (by rw [World.size_alloc, World.size_alloc]; exact Nat.le_trans (Nat.le_add_right _ _) (Nat.le_add_right _ _)) _
  have HB0 := Lib.hid b0
  have HG0 := Lib.hid (((Blk.new w 29 #[.int .i64 (n : Int), .slice A l.length c]).alloc (.cells #[.slice A1 (nw (bitB b) n).length c1, .slice A3 (nw (bitB d) n).length c3] 89)).alloc (.cells #[] 3))
  have gf := (Blk.new (w.alloc (.cells #[.int .i64 (n : Int), .slice A l.length c] 29)) 89 #[.slice A1 (nw (bitB b) n).length c1, .slice A3 (nw (bitB d) n).length c3]).alloc (.cells #[] 3)
  rw [World.size_alloc] at gf
  have HF0 := Lib.hid gf
  have o0 := own_new0 ((w.alloc (.cells #[.int .i64 (n : Int), .slice A l.length c] 29)).alloc (.cells #[.slice A1 (nw (bitB b) n).length c1, .slice A3 (nw (bitB d) n).length c3] 89)) 3 1
  rw [World.size_alloc, World.size_alloc] at o0
  have HO0 : Hid ((((w.alloc (.cells #[.int .i64 (n : Int), .slice A l.length c] 29)).alloc (.cells #[.slice A1 (nw (bitB b) n).length c1, .slice A3 (nw (bitB d) n).length c3] 89)).alloc (.cells #[] 3)).ownsRow w.heap.size 3 1 (.slice (some ⟨w.heap.size + 1 + 1, 0, none⟩) 0 0) (nw (nxB l n b d 0 false) n).length (cellsI (nw (nxB l n b d 0 false) n))) := by
    show World.ownsRow _ _ _ _ _ _ _
    rw [nx_zero]
    exact own_base o0 (Nat.le_trans (Nat.le_add_right _ _) (Nat.le_add_right _ _))
  clear h hb hd hc1 hf hb2 hd2 b0 gf o0
  generalize thrN l n b d = T at *
  generalize hLB : nw (bitB b) n = LB at *
  generalize nw (bitB d) n = LD at *
  clear hLB
  go_enter Try.func121, Try.ntmps121
  go_wp2_with fail
  go_loopg [5, 6] n (fun g ov xv wr => ∃ (x : Nat) (ow : Value), ow = ov ∧ x + g = n ∧ xv = .int .i64 (x : Int) ∧ wr.ownsRow w.heap.size 3 1 ow (nw (nxB l n b d x false) n).length (cellsI (nw (nxB l n b d x false) n)) ∧ Blk wr w.heap.size 29 #[.int .i64 (n : Int), .slice A l.length c] ∧ Blk wr (w.heap.size + 1) 89 #[.slice A1 LB.length c1, .slice A3 LD.length c3] ∧ Below w.heap.size w wr)
  case atStart => exact ⟨0, _, rfl, by omega, rfl, HO0.out, HG0.out, HF0.out, HB0.out⟩
  case round =>
    clear HO0 HG0 HF0 HB0
    obtain ⟨x, ow, rfl, hxg, rfl, hrow, hgb, hfb, hB⟩ := hrel
    obtain ⟨A4, c4, rfl⟩ := own_form hrow
    have HR := Lib.hid hrow
    have HG := Lib.hid hgb
    have HF := Lib.hid hfb
    have HW := Lib.hid hB
    obtain ⟨p0, p1, -, -⟩ := hgb.two
    obtain ⟨p2, p3, -, -⟩ := hfb.two
    cases gk with
    | zero =>
      obtain rfl : x = n := by omega
      have HR2 := HR.out
      rw [HNX.out] at HR2
      have HR3 := Lib.hid HR2
      clear hrow hgb hfb hB HR2
      rw [HNX.out]
      go_wp2_with fail
      go_ret
      exact ⟨_, _, rfl, HR3.out, HW.out⟩
    | succ g2 =>
      have hxn : x < n := by omega
      have hxn' : (x : Int) < (n : Int) := by omega
      have HH1 := Lib.hid (l1Has_any (.slice A1 LB.length c1) LB (x : Int) wr (HB.out.below hB) (by omega))
      have HH2 := Lib.hid (l1Has_any (.slice A3 LD.length c3) LD (x : Int) wr (HD.out.below hB) (by omega))
      rw [HMB.out] at HH1
      rw [HMD.out] at HH2
      clear hrow hgb hfb hB
      cases hb1 : b.testBit x with
      | true =>
        have HE := Lib.hid (HSK.out x (HTB.out x (.inl hb1)))
        rw [hb1] at HH1
        go_wp2_with fail
        refine HH1.out.mono ?_
        rintro e w' ⟨rfl, rfl⟩
        go_wp2_with fail
        go_roundg g2
        case measure => omega
        case rel => exact ⟨x + 1, _, rfl, by omega, by go_num, by rw [← HE.out]; exact HR.out, HG.out, HF.out, HW.out⟩
      | false =>
        rw [hb1] at HH1
        cases hd1 : d.testBit x with
        | true =>
          have HE := Lib.hid (HSK.out x (HTB.out x (.inr hd1)))
          rw [hd1] at HH2
          go_wp2_with fail
          refine HH1.out.mono ?_
          rintro e w' ⟨rfl, rfl⟩
          go_wp2_with fail
          refine HH2.out.mono ?_
          rintro e w' ⟨rfl, rfl⟩
          go_wp2_with fail
          go_roundg g2
          case measure => omega
          case rel => exact ⟨x + 1, _, rfl, by omega, by go_num, by rw [← HE.out]; exact HR.out, HG.out, HF.out, HW.out⟩
        | false =>
          rw [hd1] at HH2
          have HQX := Lib.hid (fun (q : Bool) (h : NxQ l b n x LB.length q) => HDN.out x q (HQA.out x q h hb1 hd1))
          clear HSK HDN HQA HTB
          go_wp2_with fail
          refine HH1.out.mono ?_
          rintro e w' ⟨rfl, rfl⟩
          go_wp2_with fail
          refine HH2.out.mono ?_
          rintro e w' ⟨rfl, rfl⟩
          go_wp2_with fail
          clear p0 p1 p2 p3
          go_loopg [5, 7] LB.length (fun g ov kv wr => ∃ (k : Nat) (q : Bool) (ow : Value), ow = ov ∧ k + g = LB.length ∧ kv = .int .i64 (k : Int) ∧ Hid (NxQ l b n x k q) ∧ wr.ownsRow w.heap.size 3 1 ow (nw (nxB l n b d x q) n).length (cellsI (nw (nxB l n b d x q) n)) ∧ Blk wr w.heap.size 29 #[.int .i64 (n : Int), .slice A l.length c] ∧ Blk wr (w.heap.size + 1) 89 #[.slice A1 LB.length c1, .slice A3 LD.length c3] ∧ Below w.heap.size w wr)
          case atStart => exact ⟨0, false, _, rfl, by omega, rfl, Lib.hid (HQZ.out x), HR.out, HG.out, HF.out, HW.out⟩
          case round =>
            clear HR HG HF HW
            obtain ⟨k, q, ow, rfl, hkg, rfl, hq, hrow, hgb, hfb, hB⟩ := hrel
            obtain ⟨A6, c6, rfl⟩ := own_form hrow
            have HR := Lib.hid hrow
            have HG := Lib.hid hgb
            have HF := Lib.hid hfb
            have HW := Lib.hid hB
            obtain ⟨p0, p1, -, -⟩ := hgb.two
            obtain ⟨p2, p3, -, -⟩ := hfb.two
            cases gk with
            | zero =>
              obtain rfl : k = LB.length := by omega
              have HE := Lib.hid (HQX.out q hq.out)
              clear hrow hgb hfb hB
              go_wp2_with fail
              go_roundg g2
              case measure => omega
              case rel => exact ⟨x + 1, _, rfl, by omega, by go_num, by rw [← HE.out]; exact HR.out, HG.out, HF.out, HW.out⟩
            | succ g3 =>
              have hlt : k < LB.length := by omega
              have hlt' : (k : Int) < (LB.length : Int) := by omega
              obtain ⟨y, hy⟩ : ∃ y, LB[k]? = some y := ⟨_, List.getElem?_eq_getElem hlt⟩
              obtain ⟨g5, o5, rfl, c5⟩ := HC1.out k _ hy
              have q5 := nearv.cell_keep c5 hB
              have HNR := Lib.hid (l2Near_any (n : Int) y (x : Int) (.slice A l.length c) l wr.drew (H.out.below hB.drew) hl)
              have hnl := nw_len (nxB l n b d x q) n
              cases ha : adj l y (x : Int) with
              | true =>
                have HN := Lib.hid (HQY.out x k y hy ha)
                have HPB := Lib.hid (fun L (h : PutI (nw (nxB l n b d x q) n) (x : Int) L) => nx_put hxn h)
                have HPT := Lib.hid (fun (W : World) (hW : W.ownsRow w.heap.size 3 1 (.slice A6 (nw (nxB l n b d x q) n).length c6) (nw (nxB l n b d x q) n).length (cellsI (nw (nxB l n b d x q) n))) (hs : w.heap.size ≤ W.heap.size) => l1Put_own _ (nw (nxB l n b d x q) n) (x : Int) W w.heap.size hW hs (by omega) (nw_asc _ _))
                rw [ha] at HNR
                clear hrow hgb hfb hB hy c5 hq
                generalize (nw (nxB l n b d x q) n) = M2 at *
                go_wp2_with fail
                refine wp_region_held_drew (S := (fun w' : World => w'.cell? ⟨w.heap.size, 0, none⟩ = some (.int .i64 (n : Int)) ∧ w'.cell? ⟨w.heap.size, 1, none⟩ = some (.slice A l.length c) ∧ w'.cell? ⟨w.heap.size + 1, 0, none⟩ = some (.slice (some ⟨g5, o5, none⟩) LB.length c1) ∧ w'.cell? ⟨g5, o5 + k, none⟩ = some (.int .i64 y))) (by kernel_rfl) (by (try dsimp only); simp [*]) (fun hHeld => ?_)
                change wpAnyH _ _ _ _ _ _ #[false, false, false, false, false, false, false, false] _ _
                refine wpAnyH_take (i := 0) (oi := ⟨some 32, _, _, _, _, _⟩) (v := ?_) rfl (by kernel_rfl) (by kernel_rfl) (by kernel_rfl) (fun _ _ _ h => h) (Or.inl ⟨by rfl, ?_⟩) (by assumption) ?_
                rotate_left
                · (intro w hSw; (try dsimp only at hSw); go_simp; (try (with_reducible rfl)))
                try simp only [Act.put, List.setIfInBounds_toArray, List.set_cons_zero, List.set_cons_succ]
                refine wpAnyH_take (i := 1) (oi := ⟨some 33, _, _, _, _, _⟩) (v := ?_) rfl (by kernel_rfl) (by kernel_rfl) (by kernel_rfl) (fun _ _ _ h => h) (Or.inl ⟨by rfl, ?_⟩) (by assumption) ?_
                rotate_left
                · (intro w hSw; (try dsimp only at hSw); go_simp; (try (with_reducible rfl)))
                try simp only [Act.put, List.setIfInBounds_toArray, List.set_cons_zero, List.set_cons_succ]
                refine wpAnyH_take (i := 2) (oi := ⟨some 34, _, _, _, _, _⟩) (v := ?_) rfl (by kernel_rfl) (by kernel_rfl) (by kernel_rfl) (fun _ _ _ h => h) (Or.inl ⟨by rfl, ?_⟩) (by assumption) ?_
                rotate_left
                · (intro w hSw; (try dsimp only at hSw); go_simp; (try (with_reducible rfl)))
                try simp only [Act.put, List.setIfInBounds_toArray, List.set_cons_zero, List.set_cons_succ]
                refine wpAnyH_take (i := 3) (oi := ⟨some 35, _, _, _, _, _⟩) (v := ?_) rfl (by kernel_rfl) (by kernel_rfl) (by kernel_rfl) (fun _ _ _ h => h) (Or.inl ⟨by rfl, ?_⟩) (by assumption) ?_
                rotate_left
                · (intro w hSw; (try dsimp only at hSw); go_simp; (try (with_reducible rfl)))
                try simp only [Act.put, List.setIfInBounds_toArray, List.set_cons_zero, List.set_cons_succ]
                refine wpAnyH_take (i := 4) (oi := ⟨some 36, _, _, _, _, _⟩) (v := ?_) rfl (by kernel_rfl) (by kernel_rfl) (by kernel_rfl) (fun _ _ _ h => h) (Or.inl ⟨by rfl, ?_⟩) (by assumption) ?_
                rotate_left
                · (intro w hSw; (try dsimp only at hSw); go_simp; (try (with_reducible rfl)))
                try simp only [Act.put, List.setIfInBounds_toArray, List.set_cons_zero, List.set_cons_succ]
                refine wpAnyH_take (i := 5) (oi := ⟨some 37, _, _, _, _, _⟩) (v := ?_) rfl (by kernel_rfl) (by kernel_rfl) (by kernel_rfl) (fun _ _ _ h => h) (Or.inl ⟨by rfl, ?_⟩) (by assumption) ?_
                rotate_left
                · (intro w hSw; (try dsimp only at hSw); go_simp; (try (with_reducible rfl)))
                try simp only [Act.put, List.setIfInBounds_toArray, List.set_cons_zero, List.set_cons_succ]
                refine wpAnyH_take (i := 6) (oi := ⟨some 38, _, _, _, _, _⟩) (v := ?_) rfl (by kernel_rfl) (by kernel_rfl) (by kernel_rfl) (fun _ _ _ h => h) (Or.inl ⟨by rfl, ?_⟩) (by assumption) ?_
                rotate_left
                · (intro w hSw; (try dsimp only at hSw); go_simp; (try (with_reducible rfl)))
                try simp only [Act.put, List.setIfInBounds_toArray, List.set_cons_zero, List.set_cons_succ]
                refine wpAnyH_ready (rs := [7]) (by kernel_rfl) (by simp) ?_
                refine AllReadyH.cons (o := ⟨some 39, _, _, _, _, _⟩) rfl (fun K hK => ?_) AllReadyH.nil
                go_simp
                refine HNR.out.mono ?_; rintro e w3 ⟨rfl, b3⟩; have d3 : Below wr.heap.size wr w3 := btrans (Below.refl _ _).drew b3; obtain ⟨k0, k1, -, -⟩ := (HG.out.below d3 HG.out.lt).two; obtain ⟨k2, k3, -, -⟩ := (HF.out.below d3 HF.out.lt).two; have q7 := nearv.cell_keep q5 d3
                go_wp2_with fail
                refine hK.out _ _ (by (try dsimp only); simp [*]) (fun hHeld => ?_)
                clear hK K
                try simp only [List.setIfInBounds_toArray, List.set_cons_zero, List.set_cons_succ]
                refine wpAnyH_done (by kernel_rfl) ?_ _
                have HG3 := Lib.hid (HG.out.below d3 HG.out.lt)
                have HF3 := Lib.hid (HF.out.below d3 HF.out.lt)
                have HB3 := Lib.hid (btrans HW.out d3)
                have HP3 := Lib.hid (HPT.out w3 (own_below HR.out d3) HB3.out.size)
                clear b3 d3 k0 k1 k2 k3 q7 q5 p0 p1 p2 p3 hHeld HPT
                go_wp2_with fail
                refine HP3.out.mono ?_
                rintro e w5 ⟨L, A8, c8, rfl, hpi, o8, b8⟩
                have HLB := Lib.hid (HPB.out L hpi)
                have HB8 := Lib.hid (btrans HB3.out b8)
                have HG8 := Lib.hid (HG3.out.below b8 HG3.out.lt)
                have HF8 := Lib.hid (HF3.out.below b8 HF3.out.lt)
                have HO8 := Lib.hid o8
                clear hpi o8 b8
                go_wp2_with fail
                go_roundg g3
                case measure => omega
                case rel => exact ⟨k + 1, true, _, rfl, by omega, by go_num, HN, by rw [← HLB.out]; exact HO8.out, HG8.out, HF8.out, HB8.out⟩
              | false =>
                have HN := Lib.hid (HQN.out x k q y hq.out hy ha)
                rw [ha] at HNR
                clear hrow hgb hfb hB hy c5 hq
                go_wp2_with fail
                refine wp_region_held_drew (S := (fun w' : World => w'.cell? ⟨w.heap.size, 0, none⟩ = some (.int .i64 (n : Int)) ∧ w'.cell? ⟨w.heap.size, 1, none⟩ = some (.slice A l.length c) ∧ w'.cell? ⟨w.heap.size + 1, 0, none⟩ = some (.slice (some ⟨g5, o5, none⟩) LB.length c1) ∧ w'.cell? ⟨g5, o5 + k, none⟩ = some (.int .i64 y))) (by kernel_rfl) (by (try dsimp only); simp [*]) (fun hHeld => ?_)
                change wpAnyH _ _ _ _ _ _ #[false, false, false, false, false, false, false, false] _ _
                refine wpAnyH_take (i := 0) (oi := ⟨some 32, _, _, _, _, _⟩) (v := ?_) rfl (by kernel_rfl) (by kernel_rfl) (by kernel_rfl) (fun _ _ _ h => h) (Or.inl ⟨by rfl, ?_⟩) (by assumption) ?_
                rotate_left
                · (intro w hSw; (try dsimp only at hSw); go_simp; (try (with_reducible rfl)))
                try simp only [Act.put, List.setIfInBounds_toArray, List.set_cons_zero, List.set_cons_succ]
                refine wpAnyH_take (i := 1) (oi := ⟨some 33, _, _, _, _, _⟩) (v := ?_) rfl (by kernel_rfl) (by kernel_rfl) (by kernel_rfl) (fun _ _ _ h => h) (Or.inl ⟨by rfl, ?_⟩) (by assumption) ?_
                rotate_left
                · (intro w hSw; (try dsimp only at hSw); go_simp; (try (with_reducible rfl)))
                try simp only [Act.put, List.setIfInBounds_toArray, List.set_cons_zero, List.set_cons_succ]
                refine wpAnyH_take (i := 2) (oi := ⟨some 34, _, _, _, _, _⟩) (v := ?_) rfl (by kernel_rfl) (by kernel_rfl) (by kernel_rfl) (fun _ _ _ h => h) (Or.inl ⟨by rfl, ?_⟩) (by assumption) ?_
                rotate_left
                · (intro w hSw; (try dsimp only at hSw); go_simp; (try (with_reducible rfl)))
                try simp only [Act.put, List.setIfInBounds_toArray, List.set_cons_zero, List.set_cons_succ]
                refine wpAnyH_take (i := 3) (oi := ⟨some 35, _, _, _, _, _⟩) (v := ?_) rfl (by kernel_rfl) (by kernel_rfl) (by kernel_rfl) (fun _ _ _ h => h) (Or.inl ⟨by rfl, ?_⟩) (by assumption) ?_
                rotate_left
                · (intro w hSw; (try dsimp only at hSw); go_simp; (try (with_reducible rfl)))
                try simp only [Act.put, List.setIfInBounds_toArray, List.set_cons_zero, List.set_cons_succ]
                refine wpAnyH_take (i := 4) (oi := ⟨some 36, _, _, _, _, _⟩) (v := ?_) rfl (by kernel_rfl) (by kernel_rfl) (by kernel_rfl) (fun _ _ _ h => h) (Or.inl ⟨by rfl, ?_⟩) (by assumption) ?_
                rotate_left
                · (intro w hSw; (try dsimp only at hSw); go_simp; (try (with_reducible rfl)))
                try simp only [Act.put, List.setIfInBounds_toArray, List.set_cons_zero, List.set_cons_succ]
                refine wpAnyH_take (i := 5) (oi := ⟨some 37, _, _, _, _, _⟩) (v := ?_) rfl (by kernel_rfl) (by kernel_rfl) (by kernel_rfl) (fun _ _ _ h => h) (Or.inl ⟨by rfl, ?_⟩) (by assumption) ?_
                rotate_left
                · (intro w hSw; (try dsimp only at hSw); go_simp; (try (with_reducible rfl)))
                try simp only [Act.put, List.setIfInBounds_toArray, List.set_cons_zero, List.set_cons_succ]
                refine wpAnyH_take (i := 6) (oi := ⟨some 38, _, _, _, _, _⟩) (v := ?_) rfl (by kernel_rfl) (by kernel_rfl) (by kernel_rfl) (fun _ _ _ h => h) (Or.inl ⟨by rfl, ?_⟩) (by assumption) ?_
                rotate_left
                · (intro w hSw; (try dsimp only at hSw); go_simp; (try (with_reducible rfl)))
                try simp only [Act.put, List.setIfInBounds_toArray, List.set_cons_zero, List.set_cons_succ]
                refine wpAnyH_ready (rs := [7]) (by kernel_rfl) (by simp) ?_
                refine AllReadyH.cons (o := ⟨some 39, _, _, _, _, _⟩) rfl (fun K hK => ?_) AllReadyH.nil
                go_simp
                refine HNR.out.mono ?_; rintro e w3 ⟨rfl, b3⟩; have d3 : Below wr.heap.size wr w3 := btrans (Below.refl _ _).drew b3; obtain ⟨k0, k1, -, -⟩ := (HG.out.below d3 HG.out.lt).two; obtain ⟨k2, k3, -, -⟩ := (HF.out.below d3 HF.out.lt).two; have q7 := nearv.cell_keep q5 d3
                go_wp2_with fail
                refine hK.out _ _ (by (try dsimp only); simp [*]) (fun hHeld => ?_)
                clear hK K
                try simp only [List.setIfInBounds_toArray, List.set_cons_zero, List.set_cons_succ]
                refine wpAnyH_done (by kernel_rfl) ?_ _
                have HG3 := Lib.hid (HG.out.below d3 HG.out.lt)
                have HF3 := Lib.hid (HF.out.below d3 HF.out.lt)
                have HB3 := Lib.hid (btrans HW.out d3)
                have HR3 := Lib.hid (own_below HR.out d3)
                clear b3 d3 k0 k1 k2 k3 q7 q5 p0 p1 p2 p3 hHeld
                go_wp2_with fail
                go_roundg g3
                case measure => omega
                case rel => exact ⟨k + 1, q, _, rfl, by omega, by go_num, HN, HR3.out, HG3.out, HF3.out, HB3.out⟩
end Go.Proofs.Ytbbgbepemnmfdaa.fires
