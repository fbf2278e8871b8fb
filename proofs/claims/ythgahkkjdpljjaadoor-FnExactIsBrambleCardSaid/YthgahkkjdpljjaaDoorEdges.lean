/- The contracts of the laws' helpers over edges and Graphs: sizes, copies, comparisons, marks. -/
import Derived.Test.YthgahkkjdpljjaaDoorProg
import Derived.Test.YthgahkkjdpljjaaDoorWords
import Derived.WalkLawsBesides
import Derived.WalkSpells
import Derived.IntWalk
import Derived.Deep.QuietTactic
import Derived.BigQuiet
import Derived.Deep.RegionHeld3
namespace Go.Proofs.YthgahkkjdpljjaaDoor.edges
open Go.RowKit P2 words

theorem infoEd : (Tryd.prog.info? 48).map (fun i => (i.zero, i.size, i.bytes)) = some (some (.agg #[.int .i64 0, .int .i64 0]), 2, 16) := by kernel_rfl

theorem toIntA2_any (a b : Int) (w : World) :
    Calls Tryd.prog 27 #[.agg #[.int .i64 a, .int .i64 b]] w fun e w' => e = .returned (.agg #[.int .i64 a, .int .i64 b]) ∧ Below w.heap.size w w' := by
  go_enter Tryd.func27, Tryd.ntmps27
  go_wp2_with fail
  refine wp_loop_rounds 3 ?_
  iterate 3 (rw [rounds_succ]; go_wp2_with fail)
  refine bodyPost_ret (v := .agg #[.int .i64 a, .int .i64 b]) (by simp [results, Tryd.results27, go_sem]) rfl ⟨rfl, ?_⟩
  exact (((Below.refl _ _).alloc (Nat.le_refl _) _).alloc (by simp) _).alloc (by simp; omega) _

theorem eqIntA2_any (a b : Int) (w : World) :
    Calls Tryd.prog 35 #[.agg #[.int .i64 a, .int .i64 b], .agg #[.int .i64 a, .int .i64 b]] w fun e w' => e = .returned (.bool true) ∧ Below w.heap.size w w' := by
  go_enter Tryd.func35, Tryd.ntmps35
  go_wp2_with fail
  refine wp_loop_rounds 3 ?_
  iterate 2 (rw [rounds_succ]; go_wp2_with fail; go_quiet (fail); go_wp2_with fail)
  rw [rounds_succ]
  go_wp2_with fail
  go_ret
  exact ⟨rfl, below_drewN (((Below.refl _ _).alloc (Nat.le_refl _) _).alloc (by simp) _) _⟩

theorem szIntA2S_any (v : Value) (l : List Ed) (w : World) (h : Edges w v l) (hl : l.length ≤ maxLen) :
    Calls Tryd.prog 12 #[v, .int .i64 1048576] w fun e w' => e = .returned (.int .i64 (if l.length ≤ 1048576 then (1048576 - l.length : Int) else -1)) ∧ w = w' := by
  obtain ⟨A, c, rfl, -⟩ := h.form
  unfold maxLen at hl
  by_cases h1 : l.length ≤ 1048576
  · rw [if_pos h1]
    have h2 : (l.length : Int) ≤ 1048576 := by omega
    go_enter Tryd.func12, Tryd.ntmps12
    go_wp2_with fail
    go_ret
    exact ⟨rfl, rfl⟩
  · rw [if_neg h1]
    have h2 : (1048576 : Int) < (l.length : Int) := by omega
    go_enter Tryd.func12, Tryd.ntmps12
    go_wp2_with fail
    go_ret
    exact ⟨rfl, rfl⟩
theorem szGraph_any (s : Int) (v : Value) (l : List Ed) (w : World) (h : Edges w v l) (hl : l.length ≤ maxLen) :
    Calls Tryd.prog 4 #[.agg #[.int .i64 s, v], .int .i64 1048576] w fun e w' => e = .returned (.int .i64 (if l.length ≤ 1048576 then (1048576 - l.length : Int) else -1)) ∧ Below w.heap.size w w' := by
  obtain ⟨A, c, hv, -⟩ := h.form
  have hb := h.below ((Below.refl _ _).alloc (Nat.le_refl _) (.cells #[.int .i64 s, v] 24))
  have HS := Lib.hid (szIntA2S_any v l _ hb hl)
  subst hv
  by_cases h1 : l.length ≤ 1048576
  · rw [if_pos h1] at HS ⊢
    have h2 : (l.length : Int) ≤ 1048576 := by omega
    clear hb h
    go_enter Tryd.func4, Tryd.ntmps4
    go_wp2_with (go_at_call 12; refine HS.out.mono ?_; rintro e w' ⟨rfl, rfl⟩)
    go_ret
    exact ⟨rfl, (Below.refl _ _).alloc (Nat.le_refl _) _⟩
  · rw [if_neg h1] at HS ⊢
    clear hb h
    go_enter Tryd.func4, Tryd.ntmps4
    go_wp2_with (go_at_call 12; refine HS.out.mono ?_; rintro e w' ⟨rfl, rfl⟩)
    go_ret
    exact ⟨rfl, (Below.refl _ _).alloc (Nat.le_refl _) _⟩

/-- the first k edges, then empty ones -/
def copied (l : List Ed) (k : Nat) : List Value := cellsE (l.take k ++ List.replicate (l.length - k) (0, 0))
theorem copied_all (l : List Ed) : copied l l.length = cellsE l := by simp [copied]
theorem copied_zero (l : List Ed) : copied l 0 = cellsE (List.replicate l.length (0, 0)) := by simp [copied]
theorem cellsE_set (l m : List Ed) (a e : Ed) : ((cellsE (l ++ a :: m)).set (l.length * 2) (.int .i64 e.1)).set (l.length * 2 + 1) (.int .i64 e.2) = cellsE (l ++ e :: m) := by
  have hl := cellsE_len l
  have h2 : ∀ x : Ed, cellsE (x :: m) = .int .i64 x.1 :: .int .i64 x.2 :: cellsE m := fun x => rfl
  rw [cellsE_app, cellsE_app, h2, h2, ← hl, List.set_append_right _ _ (Nat.le_refl _), Nat.sub_self, List.set_cons_zero, List.set_append_right _ _ (by omega), show (cellsE l).length + 1 - (cellsE l).length = 1 from by omega]
  rfl
theorem copied_set {l : List Ed} {k : Nat} {e : Ed} (h : l[k]? = some e) : ((copied l k).set (k * 2) (.int .i64 e.1)).set (k * 2 + 1) (.int .i64 e.2) = copied l (k + 1) := by
  obtain ⟨hk, he⟩ := List.getElem?_eq_some_iff.1 h
  have hl : (l.take k).length = k := by rw [List.length_take]; omega
  unfold copied
  rw [show l.length - k = (l.length - (k + 1)) + 1 from by omega, List.replicate_succ]
  have := cellsE_set (l.take k) (List.replicate (l.length - (k + 1)) (0, 0)) (0, 0) e
  rw [hl] at this
  rw [this, List.take_add_one, h]
  simp
theorem made2 (n : Nat) : (madeCells #[Value.int .i64 0, Value.int .i64 0] (n * 2)).toList = cellsE (List.replicate n (0, 0)) := by
  apply List.ext_getElem?
  intro j
  have hr : ∀ k, k < n → (List.replicate n ((0, 0) : Ed))[k]? = some (0, 0) := fun k hk => by rw [List.getElem?_replicate, if_pos hk]
  by_cases hj : j < n * 2
  · rcases Nat.mod_two_eq_zero_or_one j with h0 | h0
    · obtain ⟨k, rfl⟩ : ∃ k, j = k * 2 := ⟨j / 2, by omega⟩
      rw [(cellsE_at (hr k (by omega))).1]
      simp [madeCells, hj]
    · obtain ⟨k, rfl⟩ : ∃ k, j = k * 2 + 1 := ⟨j / 2, by omega⟩
      rw [(cellsE_at (hr k (by omega))).2]
      simp [madeCells, hj, Nat.add_mod]
  · rw [List.getElem?_eq_none (by simp [madeCells]; omega), List.getElem?_eq_none (by rw [cellsE_len, List.length_replicate]; omega)]

set_option maxHeartbeats 400000 in
theorem toIntA2S_any (v : Value) (l : List Ed) (w : World) (h : Edges w v l) (hl : l.length ≤ 1048576) :
    Calls Tryd.prog 16 #[v] w fun e w' => ∃ A c, e = .returned (.slice A l.length c) ∧ w'.ownsRow w.heap.size 48 2 (.slice A l.length c) l.length (cellsE l) ∧ Below w.heap.size w w' := by
  obtain ⟨A, c, rfl, hc⟩ := h.form
  obtain ⟨i0, hi, hz0, hz1, hz2⟩ := info_parts infoEd
  have hmk := run_make_rowN (P := Tryd.prog) 22 48 i0 (.agg #[.int .i64 0, .int .i64 0]) Tryd.underlying22 hi hz0 .i64 .i64 l.length l.length (Nat.le_refl _) (by rw [hz2]; omega) (by omega)
  have hmm := made2 l.length
  have hown := World.ownsRow_lit (base := w.heap.size) (e := 48) (size := 2) w (madeCells #[Value.int .i64 0, Value.int .i64 0] (l.length * 2)) l.length (Nat.le_refl _) (by unfold maxLen; omega) (size_madeCells _ _)
  rw [hmm, ← copied_zero] at hown
  have HOWN := Lib.hid hown
  have HC := Lib.hid hc
  clear hown hmm hc
  go_enter Tryd.func16, Tryd.ntmps16
  go_wp2_with fail
  go_loopw [4] (fun i wr => ∃ k : Nat, k ≤ l.length ∧ i = .int .i64 (k : Int) ∧ wr.ownsRow w.heap.size 48 2 (.slice (some ⟨w.heap.size, 0, none⟩) l.length l.length) l.length (copied l k) ∧ Below w.heap.size w wr)
    (fun i _ => l.length - (intOf i).toNat)
  case atStart => exact ⟨0, Nat.zero_le _, rfl, HOWN.out, (Below.refl _ _).alloc (Nat.le_refl _) _⟩
  case round =>
    obtain ⟨k, hk, rfl, hrow, hB⟩ := hrel
    by_cases hlt : k < l.length
    · obtain ⟨x, hx⟩ : ∃ x, l[k]? = some x := ⟨_, List.getElem?_eq_getElem hlt⟩
      obtain ⟨g, o, rfl, c0, c1⟩ := HC.out k x hx
      have hlt' : (k : Int) < (l.length : Int) := by omega
      have d0 : wr.cell? ⟨g, o + k * 2, none⟩ = some (.int .i64 x.1) := (hB.cell (p := ⟨g, o + k * 2, none⟩) (World.block_lt_of_cell? w (a := ⟨g, o + k * 2, none⟩) c0)).trans c0
      have d1 : wr.cell? ⟨g, o + k * 2 + 1, none⟩ = some (.int .i64 x.2) := (hB.cell (p := ⟨g, o + k * 2 + 1, none⟩) (World.block_lt_of_cell? w (a := ⟨g, o + k * 2 + 1, none⟩) c1)).trans c1
      have HX := Lib.hid hx
      clear hx c0 c1
      obtain ⟨a, b⟩ := x
      go_wp2_with fail
      refine (toIntA2_any a b _).mono ?_
      rintro e w1 ⟨rfl, hb⟩
      have hrow1 := hrow.kept (gof hb none) (.inr (by simp [Value.ownBlock]))
      have hlc : (copied l k).length = l.length * 2 := by have := hrow1.1; omega
      obtain ⟨u, hu⟩ : ∃ u, (copied l k)[k * 2]? = some u := ⟨_, List.getElem?_eq_getElem (by omega)⟩
      obtain ⟨v, hv⟩ : ∃ v, (copied l k)[k * 2 + 1]? = some v := ⟨_, List.getElem?_eq_getElem (by omega)⟩
      have f0 := hrow1.cellAt (k * 2) (by omega)
      have f1 := hrow1.cellAt (k * 2 + 1) (by omega)
      rw [hu] at f0
      rw [hv] at f1
      have z0 := hrow1.frozenAt (k * 2)
      have z1 := hrow1.frozenAt (k * 2 + 1)
      have hst := own_store2 hrow1 k (.int .i64 a) (.int .i64 b)
      have := copied_set HX.out
      simp only at this
      rw [this] at hst
      have HST := Lib.hid hst
      have HB : Hid (Below w.heap.size w w1) := hB.trans (hb.mono hB.size)
      clear hst hu hv this hrow1 hrow hB
      go_wp2_with fail
      go_roundw
      case rel => exact ⟨k + 1, by omega, by go_num, HST.out, (HB.out.setCell (Nat.le_refl _) _).setCell (Nat.le_refl _) _⟩
      case measure => simp [intOf]; omega
    · obtain rfl : k = l.length := by omega
      rw [copied_all] at hrow
      go_wp2_with fail
      go_ret
      exact ⟨_, _, rfl, hrow, hB⟩

theorem toGraph_any (s : Int) (v : Value) (l : List Ed) (w : World) (h : Edges w v l) (hl : l.length ≤ 1048576) :
    Calls Tryd.prog 7 #[.agg #[.int .i64 s, v]] w fun e w' => ∃ A c, e = .returned (.agg #[.int .i64 s, .slice A l.length c]) ∧ w'.ownsRow w.heap.size 48 2 (.slice A l.length c) l.length (cellsE l) ∧ Below w.heap.size w w' := by
  have hw1 : Below w.heap.size w (((w.alloc (.cells #[.int .i64 s, v] 24)).alloc (.cells #[.int .i64 0, .slice none 0 0] 30)).alloc (.cells #[.int .i64 0, .slice none 0 0] 30)) :=
    (((Below.refl _ _).alloc (Nat.le_refl _) _).alloc (by simp) _).alloc (by simp; omega) _
  have hw2 := hw1.size
  obtain ⟨A, c, rfl, -⟩ := h.form
  have h0 := h.below ((((Below.refl w.heap.size w).alloc (Nat.le_refl _) (.cells #[.int .i64 s, .slice A l.length c] 24)).alloc (by simp) (.cells #[.int .i64 0, .slice none 0 0] 30)).alloc (by simp; omega) (.cells #[.int .i64 s, .slice none 0 0] 30))
  have HT := Lib.hid (toIntA2S_any _ l _ h0 hl)
  clear h0 h hw1 hw2
  go_enter Tryd.func7, Tryd.ntmps7
  go_wp2_with fail
  refine HT.out.mono ?_
  rintro e w1 ⟨A2, c2, rfl, hr, hb⟩
  obtain ⟨B1, -⟩ : Blk w1 (w.heap.size + 1) 30 #[.int .i64 0, .slice none 0 0] ∧ True := ⟨Blk.below (B := w.heap.size + 1 + 1 + 1) (by simpa using ((Blk.new (w.alloc (.cells #[.int .i64 s, .slice A l.length c] 24)) 30 #[.int .i64 0, .slice none 0 0]).alloc (.cells #[.int .i64 s, .slice none 0 0] 30))) (by simpa using hb) (by omega), trivial⟩
  obtain ⟨B2, -⟩ : Blk w1 (w.heap.size + 1 + 1) 30 #[.int .i64 s, .slice none 0 0] ∧ True := ⟨Blk.below (B := w.heap.size + 1 + 1 + 1) (by simpa using (Blk.new ((w.alloc (.cells #[.int .i64 s, .slice A l.length c] 24)).alloc (.cells #[.int .i64 0, .slice none 0 0] 30)) 30 #[.int .i64 s, .slice none 0 0])) (by simpa using hb) (by omega), trivial⟩
  obtain ⟨p0, p1, z0, z1⟩ := B1.two
  obtain ⟨q0, q1, y0, y1⟩ := B2.two
  clear HT B1 B2
  go_wp2_with fail
  refine bodyPost_ret (v := .agg #[.int .i64 s, .slice A2 l.length c2]) (by simp [results, Tryd.results7, go_sem, p0, p1]) rfl ⟨A2, c2, rfl, ?_, ?_⟩
  · simp only [World.size_alloc] at hr
    exact own_base (ownsRow_setCell_below (ownsRow_setCell_below (ownsRow_setCell_below hr (by simp) _) (by simp) _) (by simp) _) (by omega)
  · exact ((((((Below.refl w.heap.size w).alloc (Nat.le_refl _) _).alloc (by simp) _).alloc (by simp; omega) _).trans (hb.mono (by simp; omega))).setCell (by simp; omega) _).setCell (by simp) _ |>.setCell (by simp) _

set_option maxHeartbeats 1000000 in
theorem eqIntA2S_yes (a b : Value) (l : List Ed) (w : World) (ha : Edges w a l) (hb : Edges w b l) (hl : l.length ≤ 1048576) :
    Calls Tryd.prog 20 #[a, b] w fun e w' => e = .returned (.bool true) ∧ Below w.heap.size w w' := by
  obtain ⟨A1, c1, rfl, h1⟩ := ha.form
  obtain ⟨A2, c2, rfl, h2⟩ := hb.form
  have H1 := Lib.hid h1
  have H2 := Lib.hid h2
  clear h1 h2 ha hb
  go_enter Tryd.func20, Tryd.ntmps20
  go_wp2_with fail
  go_loopw [5] (fun i wr => ∃ k : Nat, k ≤ l.length ∧ i = .int .i64 (k : Int) ∧ Below w.heap.size w wr) (fun i _ => l.length - (intOf i).toNat)
  case atStart => exact ⟨0, Nat.zero_le _, rfl, Below.refl _ _⟩
  case round =>
    obtain ⟨k, hk, rfl, hB⟩ := hrel
    by_cases hlt : k < l.length
    · obtain ⟨x, hx⟩ : ∃ x, l[k]? = some x := ⟨_, List.getElem?_eq_getElem hlt⟩
      obtain ⟨g1, o1, rfl, p0, p1⟩ := H1.out k x hx
      obtain ⟨g2, o2, rfl, q0, q1⟩ := H2.out k x hx
      have hlt' : (k : Int) < (l.length : Int) := by omega
      have d0 : wr.cell? ⟨g1, o1 + k * 2, none⟩ = some (.int .i64 x.1) := (hB.cell (p := ⟨g1, o1 + k * 2, none⟩) (World.block_lt_of_cell? w (a := ⟨g1, o1 + k * 2, none⟩) p0)).trans p0
      have d1 : wr.cell? ⟨g1, o1 + k * 2 + 1, none⟩ = some (.int .i64 x.2) := (hB.cell (p := ⟨g1, o1 + k * 2 + 1, none⟩) (World.block_lt_of_cell? w (a := ⟨g1, o1 + k * 2 + 1, none⟩) p1)).trans p1
      have e0 : wr.cell? ⟨g2, o2 + k * 2, none⟩ = some (.int .i64 x.1) := (hB.cell (p := ⟨g2, o2 + k * 2, none⟩) (World.block_lt_of_cell? w (a := ⟨g2, o2 + k * 2, none⟩) q0)).trans q0
      have e1 : wr.cell? ⟨g2, o2 + k * 2 + 1, none⟩ = some (.int .i64 x.2) := (hB.cell (p := ⟨g2, o2 + k * 2 + 1, none⟩) (World.block_lt_of_cell? w (a := ⟨g2, o2 + k * 2 + 1, none⟩) q1)).trans q1
      clear p0 p1 q0 q1 hx
      obtain ⟨a, b⟩ := x
      go_wp2_with fail
      go_region_held3 (fun w' => w'.cell? ⟨g1, o1 + k * 2, none⟩ = some (.int .i64 a) ∧ w'.cell? ⟨g1, o1 + k * 2 + 1, none⟩ = some (.int .i64 b) ∧ w'.cell? ⟨g2, o2 + k * 2, none⟩ = some (.int .i64 a) ∧ w'.cell? ⟨g2, o2 + k * 2 + 1, none⟩ = some (.int .i64 b)) (go_keep)
        (first | (go_at_call 35; refine (keep4 (p := ⟨g1, o1 + k * 2, none⟩) (q := ⟨g1, o1 + k * 2 + 1, none⟩) (r := ⟨g2, o2 + k * 2, none⟩) (s := ⟨g2, o2 + k * 2 + 1, none⟩) (eqIntA2_any a b _) (a := .int .i64 a) (b := .int .i64 b) (c := .int .i64 a) (d := .int .i64 b) ?_ ?_ ?_ ?_).mono ?_; (simp [*]); (simp [*]); (simp [*]); (simp [*]); rintro e w1 ⟨rfl, k0, k1, k2, k3, hb⟩))
      have hB2 : Below w.heap.size w w1 := hB.drew.trans (hb.mono hB.size)
      clear hb hB
      go_wp2_with fail
      go_roundw
      case rel => exact ⟨k + 1, by omega, by go_num, hB2⟩
      case measure => simp [intOf]; omega
    · go_wp2_with fail
      go_ret
      exact ⟨rfl, hB⟩

theorem eqGraph_yes (s : Int) (a b : Value) (l : List Ed) (w : World) (ha : Edges w a l) (hb : Edges w b l) (hl : l.length ≤ 1048576) :
    Calls Tryd.prog 10 #[.agg #[.int .i64 s, a], .agg #[.int .i64 s, b]] w fun e w' => e = .returned (.bool true) ∧ Below w.heap.size w w' := by
  have hB : Below w.heap.size w ((w.alloc (.cells #[.int .i64 s, a] 30)).alloc (.cells #[.int .i64 s, b] 30)) := ((Below.refl _ _).alloc (Nat.le_refl _) _).alloc (by simp) _
  have HE := Lib.hid (eqIntA2S_yes a b l _ (ha.below hB) (hb.below hB) hl)
  obtain ⟨A1, c1, rfl, -⟩ := ha.form
  obtain ⟨A2, c2, rfl, -⟩ := hb.form
  have hs : (s != s) = false := by simp
  clear hB ha hb
  go_enter Tryd.func10, Tryd.ntmps10
  go_wp2_with (go_at_call 20; refine HE.out.mono ?_; rintro e w1 ⟨rfl, hb⟩)
  go_ret
  exact ⟨rfl, ((((Below.refl _ _).alloc (Nat.le_refl _) _).alloc (by simp) _).trans (hb.mono (by simp; omega)))⟩

theorem toGraph_k (s : Int) (v : Value) (l : List Ed) (W : World) (h : Edges W v l) (hl : l.length ≤ 1048576) {p q r t : Addr} {a b c d : Value} (hp : W.cell? p = some a) (hq : W.cell? q = some b) (hr : W.cell? r = some c) (ht : W.cell? t = some d) :
    Calls Tryd.prog 7 #[.agg #[.int .i64 s, v]] W fun e w' => (∃ A c, e = .returned (.agg #[.int .i64 s, .slice A l.length c]) ∧ w'.ownsRow W.heap.size 48 2 (.slice A l.length c) l.length (cellsE l)) ∧
      w'.cell? p = some a ∧ w'.cell? q = some b ∧ w'.cell? r = some c ∧ w'.cell? t = some d ∧ Below W.heap.size W w' :=
  keep4r ((toGraph_any s v l W h hl).mono fun _ _ ⟨A, c, h1, h2, h3⟩ => ⟨⟨A, c, h1, h2⟩, h3⟩) hp hq hr ht
theorem eqGraph_k (s : Int) (u v : Value) (l : List Ed) (W : World) (h1 : Edges W u l) (h2 : Edges W v l) (hl : l.length ≤ 1048576) {p q r t : Addr} {a b c d : Value} (hp : W.cell? p = some a) (hq : W.cell? q = some b) (hr : W.cell? r = some c) (ht : W.cell? t = some d) :
    Calls Tryd.prog 10 #[.agg #[.int .i64 s, u], .agg #[.int .i64 s, v]] W fun e w' => e = .returned (.bool true) ∧
      w'.cell? p = some a ∧ w'.cell? q = some b ∧ w'.cell? r = some c ∧ w'.cell? t = some d ∧ Below W.heap.size W w' :=
  keep4 (eqGraph_yes s u v l W h1 h2 hl) hp hq hr ht

/-- the marks of n edges, the first m -/
def marksE (m n : Nat) : List Ed := (List.range n).map fun j : Nat => (((m + 2 * j : Nat) : Int), ((m + 2 * j + 1 : Nat) : Int))
theorem marksE_len (m n : Nat) : (marksE m n).length = n := by simp [marksE]
theorem marksE_at {m n j : Nat} (h : j < n) : (marksE m n)[j]? = some (((m + 2 * j : Nat) : Int), ((m + 2 * j + 1 : Nat) : Int)) := by simp [marksE, h]
theorem marksE_succ (m n : Nat) : marksE m (n + 1) = marksE m n ++ [(((m + 2 * n : Nat) : Int), ((m + 2 * n + 1 : Nat) : Int))] := by simp [marksE, List.range_succ]
/-- the first k edges marked -/
def markedE (m k : Nat) (l : List Ed) : List Value := cellsE (marksE m k ++ l.drop k)
theorem markedE_zero (m : Nat) (l : List Ed) : markedE m 0 l = cellsE l := by simp [markedE, marksE]
theorem markedE_all (m : Nat) (l : List Ed) : markedE m l.length l = cellsE (marksE m l.length) := by simp [markedE]
theorem markedE_set (m k : Nat) (l : List Ed) (hk : k < l.length) :
    ((markedE m k l).set (k * 2) (.int .i64 ((m + 2 * k : Nat) : Int))).set (k * 2 + 1) (.int .i64 ((m + 2 * k + 1 : Nat) : Int)) = markedE m (k + 1) l := by
  unfold markedE
  rw [List.drop_eq_getElem_cons hk, marksE_succ]
  have := cellsE_set (marksE m k) (l.drop (k + 1)) l[k] (((m + 2 * k : Nat) : Int), ((m + 2 * k + 1 : Nat) : Int))
  rw [marksE_len] at this
  rw [this]
  simp

end Go.Proofs.YthgahkkjdpljjaaDoor.edges
