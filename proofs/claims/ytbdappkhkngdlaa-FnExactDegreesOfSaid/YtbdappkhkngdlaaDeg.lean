/- Degrees: the contracts of the program's DegreesOf and of the model's. -/
import Derived.Handy
import Derived.Test.YtbdappkhkngdlaaNeighS
import Derived.Test.YtbdappkhkngdlaaCov
import Derived.Test.YtbdappkhkngdlaaRet
namespace Go.Proofs.Ytbdappkhkngdlaa.degs
open Go.RowKit P2 words edges ints good near adjs fns sets rets neigh covs
set_option linter.unusedVariables false

def touch (x : Nat) (e : Ed) : Bool := e.1 == (x : Int) || e.2 == (x : Int)
/-- the degrees by the first k edges -/
def degT (l : List Ed) (n k : Nat) : List Int := (List.range n).map fun x : Nat => (((l.take k).countP (touch x) : Nat) : Int)
/-- the degrees -/
def degL (l : List Ed) (n : Nat) : List Int := (List.range n).map fun x : Nat => (((nw (fun y => adj l x y) n).length : Nat) : Int)
theorem degT_len (l : List Ed) (n k : Nat) : (degT l n k).length = n := by simp [degT]
theorem degL_len (l : List Ed) (n : Nat) : (degL l n).length = n := by simp [degL]
theorem degT_at {l : List Ed} {n k j : Nat} (h : j < n) : (degT l n k)[j]? = some (((l.take k).countP (touch j) : Nat) : Int) := by simp [degT, h]
theorem degT_zero (l : List Ed) (n : Nat) : degT l n 0 = List.replicate n 0 := by
  apply List.ext_getElem?
  intro j
  by_cases h : j < n
  · rw [degT_at h]; simp [h]
  · rw [List.getElem?_eq_none (by rw [degT_len]; omega), List.getElem?_eq_none (by simp; omega)]
theorem count_le (l : List Ed) (k x : Nat) : (l.take k).countP (touch x) ≤ k := by
  refine Nat.le_trans List.countP_le_length ?_
  rw [List.length_take]; omega
theorem count_succ {l : List Ed} {k x : Nat} {e : Ed} (h : l[k]? = some e) : (l.take (k + 1)).countP (touch x) = (l.take k).countP (touch x) + if touch x e = true then 1 else 0 := by
  rw [List.take_add_one, h, List.countP_append, Option.toList_some, List.countP_singleton]
theorem degT_succ {l : List Ed} {n k p q : Nat} (h : l[k]? = some ((p : Int), (q : Int))) (hpq : p < q) (hq : q < n) :
    ((degT l n k).set p ((((l.take k).countP (touch p) : Nat) : Int) + 1)).set q ((((l.take k).countP (touch q) : Nat) : Int) + 1) = degT l n (k + 1) := by
  apply List.ext_getElem?
  intro j
  by_cases hj : j < n
  · rw [degT_at hj, count_succ h, List.getElem?_set]
    have ht : touch j ((p : Int), (q : Int)) = (decide (p = j) || decide (q = j)) := by
      unfold touch
      rw [Bool.eq_iff_iff]
      simp only [Bool.or_eq_true, beq_iff_eq, decide_eq_true_eq]
      omega
    rw [ht]
    by_cases h2 : q = j
    · subst h2
      rw [if_pos rfl, if_pos (by rw [List.length_set, degT_len]; exact hj)]
      simp
    · rw [if_neg h2, List.getElem?_set]
      by_cases h1 : p = j
      · subst h1
        rw [if_pos rfl, if_pos (by rw [degT_len]; exact hj)]
        simp
      · rw [if_neg h1, degT_at hj]
        simp [h1, h2]
  · rw [List.getElem?_eq_none (by rw [List.length_set, List.length_set, degT_len]; omega), List.getElem?_eq_none (by rw [degT_len]; omega)]

/-- the other end of an edge -/
def other (x : Nat) (e : Ed) : Int := if e.1 = (x : Int) then e.2 else e.1
theorem lex_nodup {l : List Ed} (h : l.Pairwise Lex) : l.Nodup := h.imp (fun {a b} hab e => by subst e; exact Lex.irrefl a hab)
theorem ends_nodup {s : Int} {l : List Ed} (hg : P2.Good s l) (x : Nat) : ((l.filter (touch x)).map (other x)).Nodup := by
  rw [List.Nodup, List.pairwise_map]
  have hs := (List.Pairwise.filter (touch x) hg.sorted)
  refine hs.imp_of_mem ?_
  intro a b ha hb hab
  have ha1 := (List.mem_filter.1 ha)
  have hb1 := (List.mem_filter.1 hb)
  have hma := hg.mem ha1.1
  have hmb := hg.mem hb1.1
  have ta := ha1.2
  have tb := hb1.2
  unfold touch at ta tb
  simp only [Bool.or_eq_true, beq_iff_eq] at ta tb
  unfold other Lex at *
  split <;> split <;> omega
theorem mem_ends {s : Int} {l : List Ed} (hg : P2.Good s l) (x : Nat) (z : Int) : z ∈ (l.filter (touch x)).map (other x) ↔ adj l (x : Int) z = true := by
  rw [List.mem_map]
  unfold adj
  rw [decide_eq_true_iff]
  constructor
  · rintro ⟨e, he, rfl⟩
    obtain ⟨h1, h2⟩ := List.mem_filter.1 he
    obtain ⟨a, b⟩ := e
    unfold touch at h2
    simp only [Bool.or_eq_true, beq_iff_eq] at h2
    unfold other
    simp only
    split
    · rename_i hh; subst hh; exact .inl h1
    · rename_i hh
      rcases h2 with h2 | h2
      · exact absurd h2 hh
      · subst h2; exact .inr h1
  · rintro (h | h)
    · exact ⟨_, List.mem_filter.2 ⟨h, by simp [touch]⟩, by simp [other]⟩
    · have := hg.mem h
      simp only at this
      refine ⟨_, List.mem_filter.2 ⟨h, by simp [touch]⟩, ?_⟩
      unfold other
      simp only
      rw [if_neg (by omega)]
theorem nw_nodup (p : Nat → Bool) (n : Nat) : (nw p n).Nodup := (nw_asc p n).imp (fun {a b} h e => by omega)
theorem degree_eq {n : Nat} {l : List Ed} (hg : P2.Good n l) (x : Nat) : l.countP (touch x) = (nw (fun y => adj l (x : Int) y) n).length := by
  have e1 : l.countP (touch x) = ((l.filter (touch x)).map (other x)).length := by rw [List.length_map, List.countP_eq_length_filter]
  rw [e1]
  have hmem : ∀ z, z ∈ (l.filter (touch x)).map (other x) ↔ z ∈ nw (fun y => adj l (x : Int) y) n := fun z => by
    rw [mem_ends hg, mem_nw]
    constructor
    · intro h
      have := (adj_node hg h).2
      exact ⟨z.toNat, by omega, by rw [show ((z.toNat : Nat) : Int) = z from by omega]; exact h, by omega⟩
    · rintro ⟨j, _, h, rfl⟩; exact h
  have h1 := (ends_nodup hg x).length_le_of_subset (fun z hz => (hmem z).1 hz)
  have h2 := (nw_nodup (fun y => adj l (x : Int) y) n).length_le_of_subset (fun z hz => (hmem z).2 hz)
  omega
theorem degT_all {n : Nat} {l : List Ed} (hg : P2.Good n l) : degT l n l.length = degL l n := by
  unfold degT degL
  rw [List.take_length]
  refine List.map_congr_left fun x _ => ?_
  rw [degree_eq hg]

theorem deg_len (s : Int) (l : List Ed) : (inG (P2.Good s l) (degL l s.toNat)).length ≤ 1048576 := inG_len fun h => by
  rw [degL_len]; have := h.2.1; omega

set_option maxHeartbeats 4000000 in
set_option maxRecDepth 100000 in
theorem implDegrees_any (s : Int) (v : Value) (l : List Ed) (w : World) (h : Edges w v l) (hl : l.length ≤ 1048576) :
    Calls Try.prog 33 #[.agg #[.int .i64 s, v]] w (RetI w (P2.Good s l) (degL l s.toNat)) := by
  obtain ⟨A, c, rfl, hc⟩ := h.form
  obtain ⟨i0, hi, hz0, hz1, hz2⟩ := info_parts infoInt
  have H := Lib.hid h
  have HC := Lib.hid hc
  have b0 : Below w.heap.size w (w.alloc (.cells #[.int .i64 s, .slice A l.length c] 29)) := (Below.refl _ _).alloc (Nat.le_refl _) _
  have g0 := Blk.new w 29 #[.int .i64 s, .slice A l.length c]
  have HG := Lib.hid (implIsGraph_any s _ l _ (h.below b0) hl)
  clear h hc
  by_cases hg : P2.Good s l
  · rw [goodB_yes hg] at HG
    obtain ⟨n, rfl⟩ : ∃ n : Nat, s = (n : Int) := ⟨s.toNat, by have := hg.1; omega⟩
    have hn : n ≤ 8 := by have := hg.2.1; omega
    have HGD := Lib.hid hg
    have HALL : Hid (degT l n l.length = degL l ((n : Int)).toNat) := degT_all hg
    have hmk := fun (W : World) => run_make_rowN (P := Try.prog) 25 3 i0 (.int .i64 0) Try.underlying25 hi hz0 .i64 .i64 n n (Nat.le_refl _) (by rw [hz2]; omega) (by omega) W
    clear hg
    go_enter Try.func33, Try.ntmps33
    go_wp2_with fail
    refine HG.out.mono ?_
    rintro e w1 ⟨rfl, b1⟩
    have e1 := btrans b0 b1
    have g1 := g0.below b1 g0.lt
    clear HG b0 b1 g0
    have hown := World.ownsRow_lit (base := w1.heap.size) (e := 3) (size := 1) w1 (madeCells #[Value.int .i64 0] (n * 1)) n (Nat.le_refl _) (by unfold maxLen; omega) (size_madeCells _ _)
    rw [toList_madeCells_one, Nat.mul_one, show List.replicate n (Value.int .i64 0) = cellsI (degT l n 0) from by rw [degT_zero]; simp [cellsI]] at hown
    have HO := Lib.hid hown
    have HB2 : Hid (Below w.heap.size w (w1.alloc (.cells (madeCells #[.int .i64 0] n) 3))) := e1.alloc e1.size _
    have g2 := g1.alloc (.cells (madeCells #[.int .i64 0] n) 3)
    have hs1 := e1.size
    obtain ⟨p0, p1, -, -⟩ := g1.two
    obtain ⟨p2, p3, -, -⟩ := g2.two
    clear hown g1 g2
    go_wp2_with fail
    clear p0 p1 p2 p3
    go_loopg [16] l.length (fun g i wr => ∃ j : Nat, j + g = l.length ∧ i = .int .i64 (j : Int) ∧ wr.ownsRow w1.heap.size 3 1 (.slice (some ⟨w1.heap.size, 0, none⟩) n n) n (cellsI (degT l n j)) ∧ Below w.heap.size w wr)
    case atStart => exact ⟨0, by omega, rfl, HO.out, HB2.out⟩
    case round =>
      clear HO HB2
      obtain ⟨j, hjg, rfl, hrow, hB⟩ := hrel
      cases gk with
      | zero =>
        obtain rfl : j = l.length := by omega
        have HR := Lib.hid hrow
        clear hrow
        go_wp2_with fail
        go_ret2
        have hr := HR.out
        rw [HALL.out] at hr
        have hlen : (degL l ((n : Int)).toNat).length = n := degL_len _ _
        have := RetI.yes (w := w) (w' := wr) (p := P2.Good (n : Int) l) (l := degL l ((n : Int)).toNat) (A := some ⟨w1.heap.size, 0, none⟩) (c := n) HGD.out (by rw [hlen]; exact own_base hr hs1) hB
        rwa [hlen] at this
      | succ g2 =>
        have hlt : j < l.length := by omega
        have hlt' : (j : Int) < (l.length : Int) := by omega
        obtain ⟨x, hx⟩ : ∃ x, l[j]? = some x := ⟨_, List.getElem?_eq_getElem hlt⟩
        have hm := HGD.out.mem (List.mem_of_getElem? hx)
        obtain ⟨g, o, rfl, c0, c1⟩ := HC.out j x hx
        obtain ⟨x1, x2⟩ := x
        simp only at hm c0 c1
        obtain ⟨p, rfl⟩ : ∃ p : Nat, x1 = (p : Int) := ⟨x1.toNat, by omega⟩
        obtain ⟨q, rfl⟩ : ∃ q : Nat, x2 = (q : Int) := ⟨x2.toNat, by omega⟩
        have hp : p < n := by omega
        have hq : q < n := by omega
        have hpq : p < q := by omega
        have hp' : (p : Int) < (n : Int) := by omega
        have hq' : (q : Int) < (n : Int) := by omega
        have q0 := cell_keep c0 hB
        have q1 := cell_keep c1 hB
        have hsz := hB.size
        have HS := Lib.hid (degT_succ hx hpq hq)
        have cp1 := count_le l j p
        have cq1 := count_le l j q
        have R1 := hrow.alloc (.cells #[.int .i64 (p : Int), .int .i64 (q : Int)] 80)
        have G1 := Blk.new wr 80 #[.int .i64 (p : Int), .int .i64 (q : Int)]
        have B1 : Below w.heap.size w (wr.alloc (.cells #[.int .i64 (p : Int), .int .i64 (q : Int)] 80)) := hB.alloc hsz _
        have hne : wr.heap.size ≠ w1.heap.size := by have := (hrow.lt w1.heap.size rfl).2; omega
        have ca := R1.cellAt p (by omega)
        rw [cellsI_at (degT_at hp)] at ca
        have za := R1.frozenAt p
        generalize hdp : (l.take j).countP (touch p) = dp at *
        generalize hdq : (l.take j).countP (touch q) = dq at *
        have hst := (R1.stored p (.int .i64 ((dp : Int) + 1))).1
        have hcs : ∀ (L : List Int) (i : Nat) (u : Int), (cellsI L).set i (.int .i64 u) = cellsI (L.set i u) := fun L i u => by simp [cellsI, List.map_set]
        rw [hcs] at hst
        have cb := hst.cellAt q (by omega)
        have hsb : ((degT l n j).set p ((dp : Int) + 1))[q]? = some (dq : Int) := by rw [List.getElem?_set, if_neg (by omega), degT_at hq, hdq]
        rw [cellsI_at hsb] at cb
        have zb := hst.frozenAt q
        have hst2 := (hst.stored q (.int .i64 ((dq : Int) + 1))).1
        rw [hcs, HS.out] at hst2
        have HR3 := Lib.hid hst2
        have G2 := G1.far (p := ⟨w1.heap.size, p, none⟩) hne (.int .i64 ((dp : Int) + 1))
        have HB3 := Lib.hid ((B1.setCell (p := ⟨w1.heap.size, p, none⟩) hs1 (.int .i64 ((dp : Int) + 1))).setCell (p := ⟨w1.heap.size, q, none⟩) hs1 (.int .i64 ((dq : Int) + 1)))
        obtain ⟨m0, m1, -, -⟩ := G1.two
        obtain ⟨m2, m3, -, -⟩ := G2.two
        clear hx c0 c1 hsb hst hst2 hrow hB B1 hne hm hdp hdq hcs R1 G1 G2
        go_wp2_with fail
        go_roundg g2
        case measure => omega
        case rel => exact ⟨j + 1, by omega, by go_num, HR3.out, HB3.out⟩
  · rw [goodB_no hg] at HG
    have HN := Lib.hid hg
    clear hg
    go_enter Try.func33, Try.ntmps33
    go_wp2_with fail
    refine HG.out.mono ?_
    rintro e w1 ⟨rfl, b1⟩
    have e_w1 := btrans b0 b1
    go_wp2_with fail
    go_ret2
    exact RetI.nil HN.out e_w1

set_option maxHeartbeats 2000000 in
set_option maxRecDepth 100000 in
theorem specDegrees_any (s : Int) (v : Value) (l : List Ed) (w : World) (h : Edges w v l) (hl : l.length ≤ 1048576) (hs1 : -9223372036854775808 ≤ s) (hs2 : s ≤ 9223372036854775807) :
    Calls Try.prog 32 #[.agg #[.int .i64 s, v]] w (RetI w (P2.Good s l) (degL l s.toNat)) := by
  obtain ⟨i0, hi, hz0, hz1, hz2⟩ := info_parts infoInt
  obtain ⟨A, c, rfl, -⟩ := h.form
  have H := Lib.hid h
  have b0 : Below w.heap.size w ((w.alloc (.cells #[.int .i64 s, .slice A l.length c] 29)).alloc (.cells #[] 3)) := ((Below.refl _ _).alloc (Nat.le_refl _) _).alloc (by simp) _
  have g0 := (Blk.new w 29 #[.int .i64 s, .slice A l.length c]).alloc (.cells #[] 3)
  have o0 := own_new0 (w.alloc (.cells #[.int .i64 s, .slice A l.length c] 29)) 3 1
  rw [World.size_alloc] at o0
  have HO := Lib.hid o0
  have HG := Lib.hid (l2Good_any s _ l _ (h.below b0) hl hs1 hs2)
  clear h o0
  by_cases hgd : P2.Good s l
  · rw [goodB_yes hgd] at HG
    obtain ⟨n, rfl⟩ : ∃ n : Nat, s = (n : Int) := ⟨s.toNat, by have := hgd.1; omega⟩
    have hn : n ≤ 8 := by have := hgd.2.1; omega
    have HOK := Lib.hid hgd
    have HLE : Hid (degL l ((n : Int)).toNat = degL l n) := rfl
    have hdl : ∀ k, (degL l n).take k = (List.range (min k n)).map fun x : Nat => (((nw (fun y => adj l x y) n).length : Nat) : Int) := fun k => by unfold degL; rw [← List.map_take, List.take_range]
    have HAT : Hid (∀ k, k < n → (degL l n)[k]? = some (((nw (fun y => adj l (k : Int) y) n).length : Nat) : Int)) := fun k hk => by simp [degL, hk]
    have HDL := Lib.hid (degL_len l n)
    clear hgd hdl
    go_enter Try.func32, Try.ntmps32
    go_wp2_with fail
    refine HG.out.mono ?_
    rintro e w1 ⟨rfl, b1⟩
    have e1 := btrans b0 b1
    have g1 := g0.below b1 (by simp; omega)
    have HO1 := Lib.hid (own_below HO.out b1)
    clear HG g0 b0 b1
    go_wp2_with fail
    go_loopg [4, 5] n (fun g s i wr => ∃ k : Nat, k + g = n ∧ i = .int .i64 (k : Int) ∧ wr.ownsRow (w.heap.size + 1) 3 1 s ((degL l n).take k).length (cellsI ((degL l n).take k)) ∧ Blk wr w.heap.size 29 #[.int .i64 (n : Int), .slice A l.length c] ∧ Below w.heap.size w wr)
    case atStart => exact ⟨0, by omega, rfl, HO1.out, g1, e1⟩
    case round =>
      clear g1
      obtain ⟨k, hkg, rfl, hrow, hgb, hB⟩ := hrel
      obtain ⟨p0, p1, -, -⟩ := hgb.two
      have hlen : ((degL l n).take k).length ≤ 8 := by rw [List.length_take]; omega
      cases gk with
      | zero =>
        obtain rfl : k = n := by omega
        have HR : Hid (wr.ownsRow (w.heap.size + 1) 3 1 u4 (degL l ((k : Int)).toNat).length (cellsI (degL l ((k : Int)).toNat))) := by
          have := hrow
          rw [show (degL l k).take k = degL l k from List.take_of_length_le (by rw [HDL.out]; exact Nat.le_refl _)] at this
          exact this
        clear hrow
        obtain ⟨A3, c3, rfl⟩ := own_form HR.out
        go_wp2_with fail
        go_ret2
        exact RetI.yes HOK.out (own_base HR.out (by omega)) hB
      | succ g2 =>
        have hlt : k < n := by omega
        have hlt' : (k : Int) < (n : Int) := by omega
        have HN : Hid ((degL l n).take (k + 1) = (degL l n).take k ++ [(((nw (fun y => adj l (k : Int) y) n).length : Nat) : Int)]) := by
          show _ = _
          rw [List.take_add_one, HAT.out k hlt]; rfl
        have HNB := Lib.hid (l2Neighbors_any n (k : Int) (.slice A l.length c) l wr (H.out.below hB) hl hn)
        generalize (degL l n).take k = m at *
        generalize (nw (fun y => adj l (k : Int) y) n) = nl at *
        go_wp2_with fail
        refine HNB.out.mono ?_
        rintro e w4 ⟨A4, c4, rfl, o4, b4⟩
        have hrow4 := own_below hrow b4
        have HG4 := Lib.hid (hgb.below b4 hgb.lt)
        have HB4 := Lib.hid (btrans hB b4)
        have hs4 := HG4.out.lt
        clear hrow hgb hB o4 b4 p0 p1
        go_wp2_with (at_builtin; refine wpList_append_own _ rfl _ _ 25 rfl (w.heap.size + 1) 3 i0 (.int .i64 0) 1 8 Try.underlying25 hi hz0 hz1 hz2 rfl (by decide) _ _ _ rfl (hrow4.alloc _) ⟨w4.heap.size, 0, none⟩ 1 1 [.int .i64 ((nl.length : Int))] rfl rfl (cell_one_new _ _ _) (fun x hx => by simp at hx; subst hx; rfl) (by unfold maxLen; omega) (by omega) (by simp; omega) ?_; intro v2 w2 hown2 hgrow2 _)
        obtain ⟨hown3, hB2⟩ := push1 hrow4 hown2 hgrow2 (by omega)
        have HG6 := Lib.hid (HG4.out.below hB2 (by omega))
        have HB6 := Lib.hid (HB4.out.trans (hB2.mono (by omega)))
        clear hgrow2 hrow4 hown2
        go_roundg g2
        case measure => omega
        case rel => exact ⟨k + 1, by omega, by go_num, by rw [HN.out]; exact hown3, HG6.out, HB6.out⟩
  · rw [goodB_no hgd] at HG
    have HN := Lib.hid hgd
    clear hgd
    go_enter Try.func32, Try.ntmps32
    go_wp2_with fail
    refine HG.out.mono ?_
    rintro e w1 ⟨rfl, b1⟩
    have e1 := btrans b0 b1
    have HO1 := Lib.hid (own_below HO.out b1)
    go_wp2_with fail
    go_ret2
    exact RetI.no HN.out (own_base HO1.out (by omega)) e1
end Go.Proofs.Ytbdappkhkngdlaa.degs
