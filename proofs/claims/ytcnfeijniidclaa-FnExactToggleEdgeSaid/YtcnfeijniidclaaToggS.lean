/- The contract of the model's ToggleEdge. -/
import Derived.Handy
import Derived.Test.YtcnfeijniidclaaToggM
import Derived.Test.YtcnfeijniidclaaEqE
import Derived.Deep.AppendLies
import Derived.Deep.RegionHeld3
import Derived.Deep.DeepCutAuto
namespace Go.Proofs.Ytcnfeijniidclaa.togg
open Go.RowKit P2 words edges ints good near adjs fns rets mids nearv apps put

theorem mid_drew {w wr : World} {R O : Nat} {n : Int} {l : List Ed} (h : Mid w wr R O n l) : Mid w wr.drew R O n l := h.call ((Below.refl _ _).drew)
theorem blk_new_eq {w : World} {g : Nat} {t : TypeId} {cs : Array Value} (h : g = w.heap.size) : Blk (w.alloc (.cells cs t)) g t cs := by subst h; exact Blk.new _ _ _
theorem own0_eq {w : World} {B p : Nat} (hB : B ≤ w.heap.size) (h : p = w.heap.size) : (w.alloc (.cells #[] 72)).ownsRow B 72 2 (.slice (some ⟨p, 0, none⟩) 0 0) 0 [] := by subst h; exact own_base (own_new0 w 72 2) hB
/-- behind the region that makes the edge, the row and the Graph -/
def CutT (w wx : World) (a b : Value) (n : Int) (A : Option Addr) (c : Nat) (l : List Ed) (lo hi2 : Int) : Prop :=
  ∃ X O p, a = .pointer (some ⟨X, 0, none⟩) ∧ b = .pointer (some ⟨O, 0, none⟩) ∧ X ≠ p ∧ X ≠ O ∧ w.heap.size + 1 < O ∧ Blk wx O 29 #[.int .i64 n, .slice (some ⟨p, 0, none⟩) 0 0] ∧ wx.ownsRow w.heap.size 72 2 (.slice (some ⟨p, 0, none⟩) 0 0) 0 [] ∧
    Blk wx (w.heap.size + 1) 29 #[.int .i64 0, .slice none 0 0] ∧ Blk wx w.heap.size 29 #[.int .i64 n, .slice A l.length c] ∧ Blk wx X 72 #[.int .i64 lo, .int .i64 hi2] ∧ Below w.heap.size w wx
theorem CutT.mk {w W : World} {n : Int} {A : Option Addr} {c : Nat} {l : List Ed} {lo hi2 : Int} {X O p : Nat} (h1 : X ≠ p) (h2 : X ≠ O) (h3 : w.heap.size + 1 < O) (h4 : Blk W O 29 #[.int .i64 n, .slice (some ⟨p, 0, none⟩) 0 0])
    (h5 : W.ownsRow w.heap.size 72 2 (.slice (some ⟨p, 0, none⟩) 0 0) 0 []) (h6 : Blk W (w.heap.size + 1) 29 #[.int .i64 0, .slice none 0 0]) (h7 : Blk W w.heap.size 29 #[.int .i64 n, .slice A l.length c])
    (h8 : Blk W X 72 #[.int .i64 lo, .int .i64 hi2]) (h9 : Below w.heap.size w W) : CutT w W.drew (.pointer (some ⟨X, 0, none⟩)) (.pointer (some ⟨O, 0, none⟩)) n A c l lo hi2 :=
  ⟨X, O, p, rfl, rfl, h1, h2, h3, h4.drewN 1, h5, h6.drewN 1, h7.drewN 1, h8.drewN 1, h9.drew⟩
theorem keep_alloc {w : World} {p : Addr} {v : Value} {o : Obj} (h : w.cell? p = some v) : (w.alloc o).drew.cell? p = some v :=
  ((((Below.refl w.heap.size w).alloc (Nat.le_refl _) o).drew).cell (p := p) (World.block_lt_of_cell? w (a := p) h)).trans h
theorem keep_one {w2 : World} {O : Nat} {p : Addr} {v u1 : Value} (h : w2.cell? p = some v) (hp : p.block ≠ O) : (w2.setCell ⟨O, 1, none⟩ u1).cell? p = some v :=
  ((gset (World.grownBy.refl w2 (some O)) 1 u1).cell (a := p) h (by simpa using hp))

set_option maxHeartbeats 2000000 in
set_option maxRecDepth 100000 in
theorem specTogg_no (s x y : Int) (v : Value) (l : List Ed) (w : World) (h : Edges w v l) (hl : l.length ≤ 1048576) (hs1 : -9223372036854775808 ≤ s) (hs2 : s ≤ 9223372036854775807) (hg : ¬ TogOk s l x y) :
    Calls Try.prog 29 #[.agg #[.int .i64 s, v], .int .i64 x, .int .i64 y] w (RetG w (TogOk s l x y) s (toggL s l x y)) := by
  obtain ⟨i0, hi, hz0, hz1, hz2⟩ := info_parts infoEd
  obtain ⟨A, c, rfl, hform⟩ := h.form
  have H := Lib.hid h
  have HC := Lib.hid hform
  have b0 : Below w.heap.size w ((w.alloc (.cells #[.int .i64 s, .slice A l.length c] 29)).alloc (.cells #[.int .i64 0, .slice none 0 0] 29)) :=
    ((Below.refl _ _).alloc (Nat.le_refl _) _).alloc (by simp) _
  have g0 := (Blk.new w 29 #[.int .i64 s, .slice A l.length c]).alloc (.cells #[.int .i64 0, .slice none 0 0] 29)
  have r0 := Blk.new (w.alloc (.cells #[.int .i64 s, .slice A l.length c] 29)) 29 #[.int .i64 0, .slice none 0 0]
  rw [World.size_alloc] at r0
  have HG := Lib.hid (l2Good_any s _ l _ (h.below b0) (by omega) hs1 hs2)
  clear h hform
  have HN := Lib.hid hg
  by_cases hgd : P2.Good s l
  · rw [goodB_yes hgd] at HG
    have h0 := hgd.1
    have h8 := hgd.2.1
    obtain ⟨n, hn⟩ : ∃ n : Nat, s = (n : Int) := ⟨s.toNat, by omega⟩
    subst hn
    by_cases hx : 0 ≤ x ∧ x < (n : Int)
    · have ix : inB x 0 ((n : Int) - 1) = true := by simp [inB]; omega
      by_cases hy : 0 ≤ y ∧ y < (n : Int)
      · have iy : inB y 0 ((n : Int) - 1) = true := by simp [inB]; omega
        have hxy : x = y := by
          apply Classical.byContradiction
          intro hne
          exact hg ⟨hgd, hx, hy, hne⟩
        subst hxy
        clear hg hgd hx hy
        go_enter Try.func29, Try.ntmps29
        go_wp2_with fail
        refine HG.out.mono ?_
        rintro e w1 ⟨rfl, b1⟩
        have e1 := btrans b0 b1
        have g1 := g0.below b1 g0.lt
        have r1 := r0.below b1 r0.lt
        clear HG b0 b1 g0 r0
        obtain ⟨p0, p1, -, -⟩ := g1.two
        go_wp2_with fail
        refine (l2Node_any (n : Int) x _ l w1 (H.out.below e1) h0 h8).mono ?_
        rw [ix]
        rintro e w2 ⟨rfl, b2⟩
        have e2 := btrans e1 b2
        have g2 := g1.below b2 g1.lt
        have r2 := r1.below b2 r1.lt
        clear e1 g1 r1 b2 p0 p1
        obtain ⟨p0, p1, -, -⟩ := g2.two
        go_wp2_with fail
        refine (l2Node_any (n : Int) x _ l w2 (H.out.below e2) h0 h8).mono ?_
        rw [ix]
        rintro e w3 ⟨rfl, b3⟩
        have e3 := btrans e2 b3
        have g3 := g2.below b3 g2.lt
        have r3 := r2.below b3 r2.lt
        clear e2 g2 r2 b3 p0 p1
        obtain ⟨p0, p1, -, -⟩ := g3.two
        obtain ⟨q0, q1, z0, z1⟩ := r3.two
        clear r3
        go_wp2_with fail
        refine bodyPost_ret (v := .tuple #[.agg #[.int .i64 0, .slice none 0 0], .bool false]) (by simp [results, Try.results29, go_sem, q0, q1]) rfl (RetG.no HN.out (by have hz_ := (e3).size; have hb_ := e3; go_grown))
      · have iy : inB y 0 ((n : Int) - 1) = false := by simp [inB]; omega
        clear hg hgd hx hy
        go_enter Try.func29, Try.ntmps29
        go_wp2_with fail
        refine HG.out.mono ?_
        rintro e w1 ⟨rfl, b1⟩
        have e1 := btrans b0 b1
        have g1 := g0.below b1 g0.lt
        have r1 := r0.below b1 r0.lt
        clear HG b0 b1 g0 r0
        obtain ⟨p0, p1, -, -⟩ := g1.two
        go_wp2_with fail
        refine (l2Node_any (n : Int) x _ l w1 (H.out.below e1) h0 h8).mono ?_
        rw [ix]
        rintro e w2 ⟨rfl, b2⟩
        have e2 := btrans e1 b2
        have g2 := g1.below b2 g1.lt
        have r2 := r1.below b2 r1.lt
        clear e1 g1 r1 b2 p0 p1
        obtain ⟨p0, p1, -, -⟩ := g2.two
        go_wp2_with fail
        refine (l2Node_any (n : Int) y _ l w2 (H.out.below e2) h0 h8).mono ?_
        rw [iy]
        rintro e w3 ⟨rfl, b3⟩
        have e3 := btrans e2 b3
        have g3 := g2.below b3 g2.lt
        have r3 := r2.below b3 r2.lt
        clear e2 g2 r2 b3 p0 p1
        obtain ⟨q0, q1, z0, z1⟩ := r3.two
        clear r3
        go_wp2_with fail
        refine bodyPost_ret (v := .tuple #[.agg #[.int .i64 0, .slice none 0 0], .bool false]) (by simp [results, Try.results29, go_sem, q0, q1]) rfl (RetG.no HN.out (by have hz_ := (e3).size; have hb_ := e3; go_grown))
    · have ix : inB x 0 ((n : Int) - 1) = false := by simp [inB]; omega
      clear hg hgd hx
      go_enter Try.func29, Try.ntmps29
      go_wp2_with fail
      refine HG.out.mono ?_
      rintro e w1 ⟨rfl, b1⟩
      have e1 := btrans b0 b1
      have g1 := g0.below b1 g0.lt
      have r1 := r0.below b1 r0.lt
      clear HG b0 b1 g0 r0
      obtain ⟨p0, p1, -, -⟩ := g1.two
      go_wp2_with fail
      refine (l2Node_any (n : Int) x _ l w1 (H.out.below e1) h0 h8).mono ?_
      rw [ix]
      rintro e w2 ⟨rfl, b2⟩
      have e2 := btrans e1 b2
      have g2 := g1.below b2 g1.lt
      have r2 := r1.below b2 r1.lt
      clear e1 g1 r1 b2 p0 p1
      obtain ⟨q0, q1, z0, z1⟩ := r2.two
      clear r2
      go_wp2_with fail
      refine bodyPost_ret (v := .tuple #[.agg #[.int .i64 0, .slice none 0 0], .bool false]) (by simp [results, Try.results29, go_sem, q0, q1]) rfl (RetG.no HN.out (by have hz_ := (e2).size; have hb_ := e2; go_grown))
  · rw [goodB_no hgd] at HG
    clear hg hgd
    go_enter Try.func29, Try.ntmps29
    go_wp2_with fail
    refine HG.out.mono ?_
    rintro e w1 ⟨rfl, b1⟩
    have e1 := btrans b0 b1
    have g1 := g0.below b1 g0.lt
    have r1 := r0.below b1 r0.lt
    clear HG b0 b1 g0 r0
    obtain ⟨q0, q1, z0, z1⟩ := r1.two
    clear r1
    go_wp2_with fail
    refine bodyPost_ret (v := .tuple #[.agg #[.int .i64 0, .slice none 0 0], .bool false]) (by simp [results, Try.results29, go_sem, q0, q1]) rfl (RetG.no HN.out (by have hz_ := (e1).size; have hb_ := e1; go_grown))
set_option maxHeartbeats 8000000 in
set_option maxRecDepth 100000 in
theorem specTogg_yes (s x y : Int) (v : Value) (l : List Ed) (w : World) (h : Edges w v l) (hl : l.length ≤ 1048575) (hs1 : -9223372036854775808 ≤ s) (hs2 : s ≤ 9223372036854775807) (hg : TogOk s l x y) :
    Calls Try.prog 29 #[.agg #[.int .i64 s, v], .int .i64 x, .int .i64 y] w (RetG w (TogOk s l x y) s (toggL s l x y)) := by
  obtain ⟨i0, hi, hz0, hz1, hz2⟩ := info_parts infoEd
  obtain ⟨A, c, rfl, hform⟩ := h.form
  have H := Lib.hid h
  have HC := Lib.hid hform
  have b0 : Below w.heap.size w ((w.alloc (.cells #[.int .i64 s, .slice A l.length c] 29)).alloc (.cells #[.int .i64 0, .slice none 0 0] 29)) :=
    ((Below.refl _ _).alloc (Nat.le_refl _) _).alloc (by simp) _
  have g0 := (Blk.new w 29 #[.int .i64 s, .slice A l.length c]).alloc (.cells #[.int .i64 0, .slice none 0 0] 29)
  have r0 := Blk.new (w.alloc (.cells #[.int .i64 s, .slice A l.length c] 29)) 29 #[.int .i64 0, .slice none 0 0]
  rw [World.size_alloc] at r0
  have HG := Lib.hid (l2Good_any s _ l _ (h.below b0) (by omega) hs1 hs2)
  clear h hform
  have hgd := hg.1
  rw [goodB_yes hgd] at HG
  have h0 := hgd.1
  have h8 := hgd.2.1
  obtain ⟨n, hn⟩ : ∃ n : Nat, s = (n : Int) := ⟨s.toNat, by omega⟩
  subst hn
  have hx := hg.2.1
  have hy := hg.2.2.1
  have hxy : (x == y) = false := by simpa using hg.2.2.2
  have ix : inB x 0 ((n : Int) - 1) = true := by simp [inB]; omega
  have iy : inB y 0 ((n : Int) - 1) = true := by simp [inB]; omega
  have HOK := Lib.hid hg
  have hn8 : n ≤ 8 := by omega
  clear hg hgd
  go_enter Try.func29, Try.ntmps29
  go_wp2_with fail
  refine HG.out.mono ?_
  rintro e w1 ⟨rfl, b1⟩
  have e1 := btrans b0 b1
  have g1 := g0.below b1 g0.lt
  have r1 := r0.below b1 r0.lt
  obtain ⟨p0, p1, -, -⟩ := g1.two
  clear HG b0 b1 g0 r0
  go_wp2_with fail
  refine (l2Node_any (n : Int) x _ l w1 (H.out.below e1) h0 h8).mono ?_
  rw [ix]
  rintro e w2 ⟨rfl, b2⟩
  have e2 := btrans e1 b2
  have g2 := g1.below b2 g1.lt
  have r2 := r1.below b2 r1.lt
  clear e1 g1 r1 b2 p0 p1
  obtain ⟨p0, p1, -, -⟩ := g2.two
  go_wp2_with fail
  refine (l2Node_any (n : Int) y _ l w2 (H.out.below e2) h0 h8).mono ?_
  rw [iy]
  rintro e w3 ⟨rfl, b3⟩
  have e3 := btrans e2 b3
  have g3 := g2.below b3 g2.lt
  have r3 := r2.below b3 r2.lt
  clear e2 g2 r2 b3 p0 p1
  obtain ⟨p0, p1, -, -⟩ := g3.two
  have hs3 := r3.lt
  have hs3' := g3.lt
  have hs4 : w.heap.size < w3.heap.size + 1 := by omega
  have hs5 : w.heap.size < w3.heap.size + 1 + 1 := by omega
  have hv0 : w3.heap.size ≤ (⟨w3.heap.size, 0, none⟩ : Addr).block := Nat.le_refl _
  have hv1 : w3.heap.size ≤ (⟨w3.heap.size + 1, 0, none⟩ : Addr).block := Nat.le_succ _
  have hv2 : w3.heap.size ≤ (⟨w3.heap.size + 1 + 1, 0, none⟩ : Addr).block := Nat.le_add_right _ 2
  go_wp2_with fail
  go_cut [8, 9] (fun a b wx => CutT w wx a b (n : Int) A c l (min x y) (max x y))
  case first =>
    have HE3 := Lib.hid e3
    have HR3 := Lib.hid r3
    have HG3 := Lib.hid g3
    have hE3s := e3.size
    have K0 : Hid (CutT w (((w3.alloc (.cells #[] 72)).alloc (.cells #[.int .i64 (min x y), .int .i64 (max x y)] 72)).alloc (.cells #[.int .i64 (n : Int), .slice (some ⟨w3.heap.size, 0, none⟩) 0 0] 29)).drew (.pointer (some ⟨w3.heap.size + 1, 0, none⟩)) (.pointer (some ⟨w3.heap.size + 1 + 1, 0, none⟩)) (n : Int) A c l (min x y) (max x y)) :=
      CutT.mk (W := (((w3.alloc (.cells #[] 72)).alloc (.cells #[.int .i64 (min x y), .int .i64 (max x y)] 72)).alloc (.cells #[.int .i64 (n : Int), .slice (some ⟨w3.heap.size, 0, none⟩) 0 0] 29))) (X := w3.heap.size + 1) (O := w3.heap.size + 1 + 1) (p := w3.heap.size) (by omega) (by omega) (by omega) (blk_new_eq (w := ((w3.alloc (.cells #[] 72)).alloc (.cells #[.int .i64 (min x y), .int .i64 (max x y)] 72))) (by simp only [World.size_alloc])) (((own0_eq (w := w3) HE3.out.size rfl).alloc _).alloc _) (((HR3.out.alloc _).alloc _).alloc _) (((HG3.out.alloc _).alloc _).alloc _) ((blk_new_eq (w := (w3.alloc (.cells #[] 72))) (by simp only [World.size_alloc])).alloc _) (((HE3.out.alloc HE3.out.size _).alloc (by simp only [World.size_alloc]; omega) _).alloc (by simp only [World.size_alloc]; omega) _)
    have K1 : Hid (CutT w (((w3.alloc (.cells #[] 72)).alloc (.cells #[.int .i64 (n : Int), .slice (some ⟨w3.heap.size, 0, none⟩) 0 0] 29)).alloc (.cells #[.int .i64 (min x y), .int .i64 (max x y)] 72)).drew (.pointer (some ⟨w3.heap.size + 1 + 1, 0, none⟩)) (.pointer (some ⟨w3.heap.size + 1, 0, none⟩)) (n : Int) A c l (min x y) (max x y)) :=
      CutT.mk (W := (((w3.alloc (.cells #[] 72)).alloc (.cells #[.int .i64 (n : Int), .slice (some ⟨w3.heap.size, 0, none⟩) 0 0] 29)).alloc (.cells #[.int .i64 (min x y), .int .i64 (max x y)] 72))) (X := w3.heap.size + 1 + 1) (O := w3.heap.size + 1) (p := w3.heap.size) (by omega) (by omega) (by omega) ((blk_new_eq (w := (w3.alloc (.cells #[] 72))) (by simp only [World.size_alloc])).alloc _) (((own0_eq (w := w3) HE3.out.size rfl).alloc _).alloc _) (((HR3.out.alloc _).alloc _).alloc _) (((HG3.out.alloc _).alloc _).alloc _) (blk_new_eq (w := ((w3.alloc (.cells #[] 72)).alloc (.cells #[.int .i64 (n : Int), .slice (some ⟨w3.heap.size, 0, none⟩) 0 0] 29))) (by simp only [World.size_alloc])) (((HE3.out.alloc HE3.out.size _).alloc (by simp only [World.size_alloc]; omega) _).alloc (by simp only [World.size_alloc]; omega) _)
    have K2 : Hid (CutT w (((w3.alloc (.cells #[.int .i64 (min x y), .int .i64 (max x y)] 72)).alloc (.cells #[] 72)).alloc (.cells #[.int .i64 (n : Int), .slice (some ⟨w3.heap.size + 1, 0, none⟩) 0 0] 29)).drew (.pointer (some ⟨w3.heap.size, 0, none⟩)) (.pointer (some ⟨w3.heap.size + 1 + 1, 0, none⟩)) (n : Int) A c l (min x y) (max x y)) :=
      CutT.mk (W := (((w3.alloc (.cells #[.int .i64 (min x y), .int .i64 (max x y)] 72)).alloc (.cells #[] 72)).alloc (.cells #[.int .i64 (n : Int), .slice (some ⟨w3.heap.size + 1, 0, none⟩) 0 0] 29))) (X := w3.heap.size) (O := w3.heap.size + 1 + 1) (p := w3.heap.size + 1) (by omega) (by omega) (by omega) (blk_new_eq (w := ((w3.alloc (.cells #[.int .i64 (min x y), .int .i64 (max x y)] 72)).alloc (.cells #[] 72))) (by simp only [World.size_alloc])) ((own0_eq (w := (w3.alloc (.cells #[.int .i64 (min x y), .int .i64 (max x y)] 72))) (by simp only [World.size_alloc]; omega) (by simp only [World.size_alloc])).alloc _) (((HR3.out.alloc _).alloc _).alloc _) (((HG3.out.alloc _).alloc _).alloc _) (((blk_new_eq (w := w3) rfl).alloc _).alloc _) (((HE3.out.alloc HE3.out.size _).alloc (by simp only [World.size_alloc]; omega) _).alloc (by simp only [World.size_alloc]; omega) _)
    have K3 : Hid (CutT w (((w3.alloc (.cells #[.int .i64 (min x y), .int .i64 (max x y)] 72)).alloc (.cells #[.int .i64 (n : Int), .slice (some ⟨w3.heap.size + 1 + 1, 0, none⟩) 0 0] 29)).alloc (.cells #[] 72)).drew (.pointer (some ⟨w3.heap.size, 0, none⟩)) (.pointer (some ⟨w3.heap.size + 1, 0, none⟩)) (n : Int) A c l (min x y) (max x y)) :=
      CutT.mk (W := (((w3.alloc (.cells #[.int .i64 (min x y), .int .i64 (max x y)] 72)).alloc (.cells #[.int .i64 (n : Int), .slice (some ⟨w3.heap.size + 1 + 1, 0, none⟩) 0 0] 29)).alloc (.cells #[] 72))) (X := w3.heap.size) (O := w3.heap.size + 1) (p := w3.heap.size + 1 + 1) (by omega) (by omega) (by omega) ((blk_new_eq (w := (w3.alloc (.cells #[.int .i64 (min x y), .int .i64 (max x y)] 72))) (by simp only [World.size_alloc])).alloc _) (own0_eq (w := ((w3.alloc (.cells #[.int .i64 (min x y), .int .i64 (max x y)] 72)).alloc (.cells #[.int .i64 (n : Int), .slice (some ⟨w3.heap.size + 1 + 1, 0, none⟩) 0 0] 29))) (by simp only [World.size_alloc]; omega) (by simp only [World.size_alloc])) (((HR3.out.alloc _).alloc _).alloc _) (((HG3.out.alloc _).alloc _).alloc _) (((blk_new_eq (w := w3) rfl).alloc _).alloc _) (((HE3.out.alloc HE3.out.size _).alloc (by simp only [World.size_alloc]; omega) _).alloc (by simp only [World.size_alloc]; omega) _)
    have K4 : Hid (CutT w (((w3.alloc (.cells #[.int .i64 (n : Int), .slice (some ⟨w3.heap.size + 1, 0, none⟩) 0 0] 29)).alloc (.cells #[] 72)).alloc (.cells #[.int .i64 (min x y), .int .i64 (max x y)] 72)).drew (.pointer (some ⟨w3.heap.size + 1 + 1, 0, none⟩)) (.pointer (some ⟨w3.heap.size, 0, none⟩)) (n : Int) A c l (min x y) (max x y)) :=
      CutT.mk (W := (((w3.alloc (.cells #[.int .i64 (n : Int), .slice (some ⟨w3.heap.size + 1, 0, none⟩) 0 0] 29)).alloc (.cells #[] 72)).alloc (.cells #[.int .i64 (min x y), .int .i64 (max x y)] 72))) (X := w3.heap.size + 1 + 1) (O := w3.heap.size) (p := w3.heap.size + 1) (by omega) (by omega) (by omega) (((blk_new_eq (w := w3) rfl).alloc _).alloc _) ((own0_eq (w := (w3.alloc (.cells #[.int .i64 (n : Int), .slice (some ⟨w3.heap.size + 1, 0, none⟩) 0 0] 29))) (by simp only [World.size_alloc]; omega) (by simp only [World.size_alloc])).alloc _) (((HR3.out.alloc _).alloc _).alloc _) (((HG3.out.alloc _).alloc _).alloc _) (blk_new_eq (w := ((w3.alloc (.cells #[.int .i64 (n : Int), .slice (some ⟨w3.heap.size + 1, 0, none⟩) 0 0] 29)).alloc (.cells #[] 72))) (by simp only [World.size_alloc])) (((HE3.out.alloc HE3.out.size _).alloc (by simp only [World.size_alloc]; omega) _).alloc (by simp only [World.size_alloc]; omega) _)
    have K5 : Hid (CutT w (((w3.alloc (.cells #[.int .i64 (n : Int), .slice (some ⟨w3.heap.size + 1 + 1, 0, none⟩) 0 0] 29)).alloc (.cells #[.int .i64 (min x y), .int .i64 (max x y)] 72)).alloc (.cells #[] 72)).drew (.pointer (some ⟨w3.heap.size + 1, 0, none⟩)) (.pointer (some ⟨w3.heap.size, 0, none⟩)) (n : Int) A c l (min x y) (max x y)) :=
      CutT.mk (W := (((w3.alloc (.cells #[.int .i64 (n : Int), .slice (some ⟨w3.heap.size + 1 + 1, 0, none⟩) 0 0] 29)).alloc (.cells #[.int .i64 (min x y), .int .i64 (max x y)] 72)).alloc (.cells #[] 72))) (X := w3.heap.size + 1) (O := w3.heap.size) (p := w3.heap.size + 1 + 1) (by omega) (by omega) (by omega) (((blk_new_eq (w := w3) rfl).alloc _).alloc _) (own0_eq (w := ((w3.alloc (.cells #[.int .i64 (n : Int), .slice (some ⟨w3.heap.size + 1 + 1, 0, none⟩) 0 0] 29)).alloc (.cells #[.int .i64 (min x y), .int .i64 (max x y)] 72))) (by simp only [World.size_alloc]; omega) (by simp only [World.size_alloc])) (((HR3.out.alloc _).alloc _).alloc _) (((HG3.out.alloc _).alloc _).alloc _) ((blk_new_eq (w := (w3.alloc (.cells #[.int .i64 (n : Int), .slice (some ⟨w3.heap.size + 1 + 1, 0, none⟩) 0 0] 29))) (by simp only [World.size_alloc])).alloc _) (((HE3.out.alloc HE3.out.size _).alloc (by simp only [World.size_alloc]; omega) _).alloc (by simp only [World.size_alloc]; omega) _)
    go_region_held3 (fun w' => w'.cell? ⟨w.heap.size, 0, none⟩ = some (.int .i64 (n : Int))) ((refine (Below.cell (B := w3.heap.size) (w := w3) ?_ hs3').trans p0; repeat (with_reducible first | refine Below.setCell ?_ hv1 _ | refine Below.setCell ?_ hv2 _ | refine Below.setCell ?_ hv0 _ | refine Below.alloc ?_ (by first | exact Nat.le_refl _ | (simp only [World.size_alloc]; omega)) _ | refine Below.drew ?_ | exact Below.refl _ _))) (first
      | (go_at_call 62; refine (l1Least_any _ _ _).mono ?_; rintro e w' ⟨rfl, rfl⟩)
      | (go_at_call 63; refine (l1Most_any _ _ _).mono ?_; rintro e w' ⟨rfl, rfl⟩))
    all_goals (go_wp2_with fail; go_meet)
    all_goals first
      | (with_reducible exact K0.out)
      | (with_reducible exact K1.out)
      | (with_reducible exact K2.out)
      | (with_reducible exact K3.out)
      | (with_reducible exact K4.out)
      | (with_reducible exact K5.out)
  case rest =>
    obtain ⟨X, O, p, rfl, rfl, hXp, hXO, hO1, hO0, hw0, hR0, hg0, hX0, hB0⟩ := hcut
    have E3 := Lib.hid e3
    have M0 := Lib.hid (And.intro hO0 (And.intro hw0 (And.intro hR0 hB0)))
    have G0 := Lib.hid hg0
    have X0 := Lib.hid hX0
    have HXP := Lib.hid hXp
    clear hO0 hw0 hR0 hB0 hg0 hX0 hXp
    have hm1 : Hid (0 ≤ min x y ∧ min x y < max x y ∧ max x y < n) := by have := HOK.out.2.2.2; exact ⟨by omega, by omega, by omega⟩
    generalize hlo_ : min x y = lo at *
    generalize hhi_ : max x y = hi2 at *
    have HLO := Lib.hid hlo_
    have HHI := Lib.hid hhi_
    have hl1 : l.length ≤ 1048576 := by omega
    clear hlo_ hhi_
    clear e3 g3 r3 p0 p1
    go_wp2_with fail
    go_loopg [10] l.length (fun g i wr => ∃ (k : Nat) (A3 : Option Addr) (c3 : Nat), k + g = l.length ∧ i = .int .i64 (k : Int) ∧ Blk wr O 29 #[.int .i64 (n : Int), .slice A3 (butE l (lo, hi2) k).length c3] ∧
      wr.ownsRow w.heap.size 72 2 (.slice A3 (butE l (lo, hi2) k).length c3) (butE l (lo, hi2) k).length (cellsE (butE l (lo, hi2) k)) ∧ Blk wr (w.heap.size + 1) 29 #[.int .i64 0, .slice none 0 0] ∧ Below w.heap.size w wr ∧
      (Value.slice A3 (butE l (lo, hi2) k).length c3).ownBlock ≠ some X ∧ Blk wr w.heap.size 29 #[.int .i64 (n : Int), .slice A l.length c] ∧ Blk wr X 72 #[.int .i64 lo, .int .i64 hi2])
    case atStart =>
      obtain ⟨h1, h2, h3, h4⟩ := M0.out
      exact ⟨0, some ⟨p, 0, none⟩, 0, by omega, rfl, h1, h2, h3, h4, by have h_ := HXP.out; simp [Value.ownBlock]; omega, G0.out, X0.out⟩
    case round =>
      obtain ⟨k, A3, c3, hkg, rfl, bO, hr, bR, hB, hne, hgb, hxb⟩ := hrel
      have hlen := butE_len l (lo, hi2) k
      have h5 : w.heap.size ≤ w.heap.size + 1 ∧ w.heap.size ≤ O ∧ w.heap.size + 1 ≠ O := by omega
      have hsO := bO.lt
      obtain ⟨p0, p1, -, -⟩ := hgb.two
      obtain ⟨m0, m1, -, -⟩ := hxb.two
      obtain ⟨o0, o1, -, -⟩ := bO.two
      cases gk with
      | zero =>
        obtain rfl : k = l.length := by omega
        have HTI := Lib.hid (fun he => togg_in HOK.out he)
        have HTO := Lib.hid (fun he L hL => togg_out (L := L) HOK.out he hL)
        rw [HLO.out, HHI.out] at HTI HTO
        by_cases he : (lo, hi2) ∈ l
        · have HTL : Hid (toggL (n : Int) l x y = butE l (lo, hi2) l.length) := HTI.out he
          have hless := butE_less he
          clear he HTI HTO
          generalize butE l (lo, hi2) l.length = L at *
          have d0 : ((L.length : Int) == (l.length : Int)) = false := by simp; omega
          have hne9 : ¬ (L.length : Int) = (l.length : Int) := by omega
          obtain ⟨q0, q1, z0, z1⟩ := bR.two
          have HD := Lib.hid (Mid.done (n := (n : Int)) hr bR hB (Nat.le_succ _))
          clear hr bR hB hgb hxb bO hlen hless
          go_wp2_with fail
          refine bodyPost_ret (v := .tuple #[.agg #[.int .i64 ((n : Int)), .slice A3 (L).length c3], .bool true]) (by simp [results, Try.results29, go_sem, q0, q1]) rfl (RetG.congr (RetG.yes (l := L) HOK.out HD.out.1 HD.out.2) Iff.rfl (fun _ => rfl) (fun _ => HTL.out.symm))
        · have HBA := Lib.hid (butE_all he)
          have HTL := Lib.hid (HTO.out he)
          rw [HBA.out] at bO hr o1
          clear he HTI HTO hlen hne
          have HPU := Lib.hid (l2Put_any (.slice A3 l.length c3) l lo hi2 wr (Reads.of_own hr) hl1)
          clear HBA
          have HB := Lib.hid hB
          have HBO := Lib.hid bO
          have HBR := Lib.hid bR
          clear hr bR hB hgb hxb bO
          go_wp2_with fail
          refine HPU.out.mono ?_
          rintro e w6 ⟨L2, A4, c4, rfl, hp, o4, b4⟩
          have bO6 := HBO.out.below b4 HBO.out.lt
          have bR6 := HBR.out.below b4 HBR.out.lt
          have e6 := btrans HB.out b4
          have o6 := own_base (B' := w.heap.size) o4 HB.out.size
          have hk6 := gset (World.grownBy.refl w6 (some O)) 1 (.slice A4 L2.length c4)
          have o7 := o6.kept hk6 (.inr (own_ne o6 bO6 tne))
          have bO7 := bO6.set_ 1 (.slice A4 L2.length c4)
          have bR7 := bR6.far (p := ⟨O, 1, none⟩) (by show w.heap.size + 1 ≠ O; omega) (.slice A4 L2.length c4)
          have e7 := e6.setCell (p := ⟨O, 1, none⟩) (by show w.heap.size ≤ O; omega) (.slice A4 L2.length c4)
          have bO7' : Blk (w6.setCell ⟨O, 1, none⟩ (.slice A4 L2.length c4)) O 29 #[.int .i64 (n : Int), .slice A4 L2.length c4] := by simpa using bO7
          obtain ⟨k0, k1, k2, k3⟩ := bO6.two
          obtain ⟨s0, s1, -, -⟩ := bO7'.two
          obtain ⟨q0, q1, z0, z1⟩ := bR7.two
          have HD := Lib.hid (Mid.done (n := (n : Int)) o7 bR7 e7 (Nat.le_succ _))
          have HT2 : Hid (toggL (n : Int) l x y = L2) := HTL.out L2 hp
          clear bO6 bR6 e6 o6 o7 bO7 bR7 e7 bO7' hk6 o4 b4
          go_wp2_with fail
          refine bodyPost_ret (v := .tuple #[.agg #[.int .i64 ((n : Int)), .slice A4 (L2).length c4], .bool true]) (by simp [results, Try.results29, go_sem, q0, q1]) rfl (RetG.congr (RetG.yes (l := L2) HOK.out HD.out.1 HD.out.2) Iff.rfl (fun _ => rfl) (fun _ => HT2.out.symm))
      | succ g9 =>
        have hlt : k < l.length := by omega
        have hlt' : (k : Int) < (l.length : Int) := by omega
        obtain ⟨x, hx⟩ : ∃ x, l[k]? = some x := ⟨_, List.getElem?_eq_getElem hlt⟩
        obtain ⟨g, o, rfl, c0, c1⟩ := HC.out k x hx
        have q0 : wr.cell? ⟨g, o + k * 2, none⟩ = some (.int .i64 x.1) := (hB.cell (p := ⟨g, o + k * 2, none⟩) (World.block_lt_of_cell? w (a := ⟨g, o + k * 2, none⟩) c0)).trans c0
        have q1 : wr.cell? ⟨g, o + k * 2 + 1, none⟩ = some (.int .i64 x.2) := (hB.cell (p := ⟨g, o + k * 2 + 1, none⟩) (World.block_lt_of_cell? w (a := ⟨g, o + k * 2 + 1, none⟩) c1)).trans c1
        have HS := Lib.hid (butE_succ (e := (lo, hi2)) hx)
        obtain ⟨x1, x2⟩ := x
        simp only at q0 q1 c0 c1
        have HC0 := Lib.hid c0
        have HC1 := Lib.hid c1
        have HNE := Lib.hid hne
        clear hx c0 c1
        by_cases hh : (x1 == lo && x2 == hi2) = true
        · have hh2 := hh
          rw [Bool.and_eq_true] at hh2
          obtain ⟨d1, d2⟩ := hh2
          have HN : Hid (butE l (lo, hi2) (k + 1) = butE l (lo, hi2) k) := by have := HS.out; simp only [hh, if_true, List.append_nil] at this; exact this
          clear hh HS
          have KK := Lib.hid (fun nq => (⟨bO, hr, bR, below_drewN hB nq, hne, hgb, hxb⟩ : Blk (wr.drewN nq) _ _ _ ∧ World.ownsRow (wr.drewN nq) _ _ _ _ _ _ ∧ Blk (wr.drewN nq) _ _ _ ∧ Below _ _ (wr.drewN nq) ∧ _ ∧ Blk (wr.drewN nq) _ _ _ ∧ Blk (wr.drewN nq) _ _ _))
          clear bO hr bR hB h5 hgb hxb hne
          have hE : (∀ W, Sem.run Try.prog (Op.equalIn 10000 72 (.agg #[.int .i64 x1, .int .i64 x2]) (.agg #[.int .i64 lo, .int .i64 hi2])) W = .ok true W) := fun W => by rw [eqe.eqE_run, d1, d2]; rfl
          go_wp2_with fail
          go_quiet (fail)
          go_wp2_with fail
          go_roundg g9
          case measure => omega
          case rel => exact ⟨k + 1, A3, c3, by omega, by go_num, by rw [HN.out]; exact KK.out _⟩
        · have HN : Hid (butE l (lo, hi2) k ++ [(x1, x2)] = butE l (lo, hi2) (k + 1)) := by have := HS.out; simp only [hh] at this; exact this.symm
          clear HS
          have hE : (∀ W, Sem.run Try.prog (Op.equalIn 10000 72 (.agg #[.int .i64 x1, .int .i64 x2]) (.agg #[.int .i64 lo, .int .i64 hi2])) W = .ok false W) := fun W => by rw [eqe.eqE_run, show (x1 == lo && x2 == hi2) = false from by simpa using hh]
          clear hh
          have KK := Lib.hid (fun nq => (⟨bO, hr, bR, below_drewN hB nq, hgb, hxb, q0, q1⟩ : Blk (wr.drewN nq) _ _ _ ∧ World.ownsRow (wr.drewN nq) _ _ _ _ _ _ ∧ Blk (wr.drewN nq) _ _ _ ∧ Below _ _ (wr.drewN nq) ∧ Blk (wr.drewN nq) _ _ _ ∧ Blk (wr.drewN nq) _ _ _ ∧ (wr.drewN nq).cell? _ = _ ∧ (wr.drewN nq).cell? _ = _))
          clear bO hr bR hB hgb hxb
          go_wp2_with fail
          go_quiet (fail)
          go_wp2_with fail
          clear p0 p1 m0 m1 o0 o1 q0 q1 hE
          obtain ⟨bO, hr, bR, hB, hgb, hxb, q0, q1⟩ := KK.out nq
          clear KK
          generalize wr.drewN nq = w5 at *
          obtain ⟨p0, p1, -, -⟩ := hgb.two
          obtain ⟨o0, o1, f0, f1⟩ := bO.two
          have hsX := hxb.lt
          have hsO5 := bO.lt
          have hs5 := hB.size
          generalize butE l (lo, hi2) k = m at *
          have F1 := Lib.hid (show ((w5.alloc (.cells #[.int .i64 x1, .int .i64 x2] 72)).drew).ownsRow w.heap.size 72 2 (.slice A3 m.length c3) m.length (cellsE m) from hr.alloc _)
          have N1 := Lib.hid (show ∀ j u, (cellsE [(x1, x2)])[j]? = some u → ((w5.alloc (.cells #[.int .i64 x1, .int .i64 x2] 72)).drew).cell? ((⟨w5.heap.size, 0, none⟩ : Addr).add j) = some u from cell_two_new w5.drew _ _ _)
          have o4' := keep_alloc (o := (.cells #[.int .i64 x1, .int .i64 x2] 72)) o1
          have HBO : Hid (Blk w5.drew _ _ _) := bO.drewN 1
          have HR : Hid (w5.drew.ownsRow _ _ _ _ _ _) := hr
          have HBR : Hid (Blk w5.drew _ _ _) := bR.drewN 1
          have HB : Hid (Below _ _ w5.drew) := hB.drew
          have HGB : Hid (Blk w5.drew _ _ _) := hgb.drewN 1
          have HXB : Hid (Blk w5.drew _ _ _) := hxb.drewN 1
          have hg9 : g < w.heap.size := World.block_lt_of_cell? w (a := ⟨g, o + k * 2, none⟩) HC0.out
          clear bO hr bR hB hgb hxb
          refine wp_region_held_drew (S := (fun w' : World => w'.cell? ⟨w.heap.size, 1, none⟩ = some (.slice (some ⟨g, o, none⟩) l.length c) ∧ w'.cell? ⟨g, o + k * 2, none⟩ = some (.int .i64 x1) ∧ w'.cell? ⟨g, o + k * 2 + 1, none⟩ = some (.int .i64 x2))) (by kernel_rfl) (by (try dsimp only); simp [*]) (fun hHeld => ?_)
          change wpAnyH _ _ _ _ _ _ #[false, false, false, false, false, false, false, false, false, false, false] _ _
          refine wpAnyH_take (i := 0) (oi := ⟨some 57, _, _, _, _, _⟩) (v := ?_) rfl (by kernel_rfl) (by kernel_rfl) (by kernel_rfl) (fun _ _ _ h => h) (Or.inl ⟨by rfl, ?_⟩) (by assumption) ?_
          rotate_left
          · (intro w hSw; (try dsimp only at hSw); go_simp; (try (with_reducible rfl)))
          try simp only [Act.put, List.setIfInBounds_toArray, List.set_cons_zero, List.set_cons_succ]
          refine wpAnyH_take (i := 2) (oi := ⟨some 59, _, _, _, _, _⟩) (v := ?_) rfl (by kernel_rfl) (by kernel_rfl) (by kernel_rfl) (fun _ _ _ h => h) (Or.inl ⟨by rfl, ?_⟩) (by assumption) ?_
          rotate_left
          · (intro w hSw; (try dsimp only at hSw); go_simp; (try (with_reducible rfl)))
          try simp only [Act.put, List.setIfInBounds_toArray, List.set_cons_zero, List.set_cons_succ]
          refine wpAnyH_take (i := 3) (oi := ⟨some 60, _, _, _, _, _⟩) (v := ?_) rfl (by kernel_rfl) (by kernel_rfl) (by kernel_rfl) (fun _ _ _ h => h) (Or.inl ⟨by rfl, ?_⟩) (by assumption) ?_
          rotate_left
          · (intro w hSw; (try dsimp only at hSw); go_simp; (try (with_reducible rfl)))
          try simp only [Act.put, List.setIfInBounds_toArray, List.set_cons_zero, List.set_cons_succ]
          refine wpAnyH_take (i := 4) (oi := ⟨some 61, _, _, _, _, _⟩) (v := ?_) rfl (by kernel_rfl) (by kernel_rfl) (by kernel_rfl) (fun _ _ _ h => h) (Or.inl ⟨by rfl, ?_⟩) (by assumption) ?_
          rotate_left
          · (intro w hSw; (try dsimp only at hSw); go_simp; (try (with_reducible rfl)))
          try simp only [Act.put, List.setIfInBounds_toArray, List.set_cons_zero, List.set_cons_succ]
          refine wpAnyH_take (i := 5) (oi := ⟨some 62, _, _, _, _, _⟩) (v := ?_) rfl (by kernel_rfl) (by kernel_rfl) (by kernel_rfl) (fun _ _ _ h => h) (Or.inl ⟨by rfl, ?_⟩) (by assumption) ?_
          rotate_left
          · (intro w hSw; (try dsimp only at hSw); go_simp; (try (with_reducible rfl)))
          try simp only [Act.put, List.setIfInBounds_toArray, List.set_cons_zero, List.set_cons_succ]
          refine wpAnyH_take (i := 6) (oi := ⟨some 63, _, _, _, _, _⟩) (v := ?_) rfl (by kernel_rfl) (by kernel_rfl) (by kernel_rfl) (fun _ _ _ h => h) (Or.inl ⟨by rfl, ?_⟩) (by assumption) ?_
          rotate_left
          · (intro w hSw; (try dsimp only at hSw); go_simp; (try (with_reducible rfl)))
          try simp only [Act.put, List.setIfInBounds_toArray, List.set_cons_zero, List.set_cons_succ]
          refine wpAnyH_ready (rs := [1, 7]) (by kernel_rfl) (by simp) ?_
          refine AllReadyH.cons rfl (fun K hK => ?_) ?_
          · go_simp
            refine hK.out _ _ hHeld (fun hHeld => ?_)
            clear hK K
            try simp only [List.setIfInBounds_toArray, List.set_cons_zero, List.set_cons_succ]
            refine wpAnyH_ready (rs := [7]) (by kernel_rfl) (by simp) ?_
            refine AllReadyH.cons rfl (fun K hK => ?_) AllReadyH.nil
            go_simp
            refine hK.out _ _ (⟨keep_alloc p1, keep_alloc q0, keep_alloc q1⟩) (fun hHeld => ?_)
            clear hK K
            try simp only [List.setIfInBounds_toArray, List.set_cons_zero, List.set_cons_succ]
            refine wpAnyH_ready (rs := [8]) (by kernel_rfl) (by simp) ?_
            refine AllReadyH.cons rfl (fun K hK => ?_) AllReadyH.nil
            (refine step_append_lies _ rfl (.tmp 58) (.tmp 64) 22 rfl w.heap.size 72 i0 (.agg #[.int .i64 0, .int .i64 0]) 2 16 Try.underlying22 hi hz0 hz1 hz2 rfl (by decide) (.slice A3 m.length c3) m.length (cellsE m) rfl F1.out ⟨w5.heap.size, 0, none⟩ 1 1 (cellsE [(x1, x2)]) rfl rfl N1.out (oneE _) (by decide) (by unfold maxLen; omega) (by omega) (by simp; omega) (w5.heap.size + 1) (by simp) ?_; intro g6 cap6 w6 own6 grow6 lies6 lt6; obtain ⟨A6, c6, hv6, hm6, hk6⟩ := Mid.push (w1 := w5.drew) HBO.out HR.out HBR.out HB.out h5 own6 rfl grow6; cases hv6; have gg := grown_blk (w := w5.drew) HR.out HGB.out tne grow6; have xx := (HXB.out.alloc (.cells #[.int .i64 x1, .int .i64 x2] 72)).grown grow6 (fun e => HNE.out e.symm); obtain ⟨-, t0, -, -⟩ := gg.two; obtain ⟨z0, z1, z2, z3⟩ := hk6.two; have e6 : Below w.heap.size w w6 := ((HB.out.alloc hs5 _).grown grow6 (by simp; omega) (fun k hk => (HR.out.lt k hk).1)); have t1 := nearv.cell_keep HC0.out e6; have t2 := nearv.cell_keep HC1.out e6)
            refine hK.out _ _ (⟨t0, t1, t2⟩) (fun hHeld => ?_)
            clear hK K
            try simp only [Act.put, List.setIfInBounds_toArray, List.set_cons_zero, List.set_cons_succ]
            refine wpAnyH_take (i := 9) (oi := ⟨some 66, _, _, _, _, _⟩) (v := ?_) rfl (by kernel_rfl) (by kernel_rfl) (by kernel_rfl) (fun _ _ _ h => h) (Or.inl ⟨by rfl, ?_⟩) (by assumption) ?_
            rotate_left
            · (intro w hSw; (try dsimp only at hSw); go_simp; (try (with_reducible rfl)))
            try simp only [Act.put, List.setIfInBounds_toArray, List.set_cons_zero, List.set_cons_succ]
            refine wpAnyH_ready (rs := [10]) (by kernel_rfl) (by simp) ?_
            refine AllReadyH.cons rfl (fun K hK => ?_) AllReadyH.nil
            go_simp
            refine hK.out _ _ (⟨keep_one t0 (by show w.heap.size ≠ _; omega), keep_one t1 (by show g ≠ _; omega), keep_one t2 (by show g ≠ _; omega)⟩) (fun hHeld => ?_)
            clear hK K
            refine wpAnyH_done (by kernel_rfl) ?_ _
            go_wp2_with fail
            go_roundg g9
            case measure => omega
            case rel =>
              have hg6 : g6 ≠ X := by
                rcases lies6 with h_ | h_
                · intro e_; subst e_; exact HNE.out h_
                · omega
              have bO7 : Blk (w6.setCell ⟨O, 1, none⟩ (.slice (some ⟨g6, 0, none⟩) (m.length + 1) cap6)) O 29 #[.int .i64 (n : Int), .slice (some ⟨g6, 0, none⟩) (m.length + 1) cap6] := by simpa using hk6.set_ 1 (.slice (some ⟨g6, 0, none⟩) (m.length + 1) cap6)
              have o7 := own6.kept (gset (World.grownBy.refl w6 (some O)) 1 (.slice (some ⟨g6, 0, none⟩) (m.length + 1) cap6)) (.inr (own_ne own6 hk6 tne))
              have bR6 := grown_blk (w := w5.drew) HR.out HBR.out tne grow6
              exact ⟨k + 1, some ⟨g6, 0, none⟩, cap6, by omega, by go_num, by rw [← HN.out, List.length_append]; exact bO7, by rw [← HN.out, List.length_append, cellsE_app]; exact o7, bR6.far (by show w.heap.size + 1 ≠ O; omega) _, e6.setCell (by show w.heap.size ≤ O; omega) _, by rw [← HN.out]; simp [Value.ownBlock]; exact hg6, gg.far (by show w.heap.size ≠ O; omega) _, xx.far hXO _⟩
          · refine AllReadyH.cons rfl (fun K hK => ?_) AllReadyH.nil
            go_simp
            refine hK.out _ _ ⟨keep_alloc p1, keep_alloc q0, keep_alloc q1⟩ (fun hHeld => ?_)
            clear hK K
            try simp only [List.setIfInBounds_toArray, List.set_cons_zero, List.set_cons_succ]
            refine wpAnyH_ready (rs := [1]) (by kernel_rfl) (by simp) ?_
            refine AllReadyH.cons rfl (fun K hK => ?_) AllReadyH.nil
            go_simp
            refine hK.out _ _ (hHeld) (fun hHeld => ?_)
            clear hK K
            try simp only [List.setIfInBounds_toArray, List.set_cons_zero, List.set_cons_succ]
            refine wpAnyH_ready (rs := [8]) (by kernel_rfl) (by simp) ?_
            refine AllReadyH.cons rfl (fun K hK => ?_) AllReadyH.nil
            (refine step_append_lies _ rfl (.tmp 58) (.tmp 64) 22 rfl w.heap.size 72 i0 (.agg #[.int .i64 0, .int .i64 0]) 2 16 Try.underlying22 hi hz0 hz1 hz2 rfl (by decide) (.slice A3 m.length c3) m.length (cellsE m) rfl F1.out ⟨w5.heap.size, 0, none⟩ 1 1 (cellsE [(x1, x2)]) rfl rfl N1.out (oneE _) (by decide) (by unfold maxLen; omega) (by omega) (by simp; omega) (w5.heap.size + 1) (by simp) ?_; intro g6 cap6 w6 own6 grow6 lies6 lt6; obtain ⟨A6, c6, hv6, hm6, hk6⟩ := Mid.push (w1 := w5.drew) HBO.out HR.out HBR.out HB.out h5 own6 rfl grow6; cases hv6; have gg := grown_blk (w := w5.drew) HR.out HGB.out tne grow6; have xx := (HXB.out.alloc (.cells #[.int .i64 x1, .int .i64 x2] 72)).grown grow6 (fun e => HNE.out e.symm); obtain ⟨-, t0, -, -⟩ := gg.two; obtain ⟨z0, z1, z2, z3⟩ := hk6.two; have e6 : Below w.heap.size w w6 := ((HB.out.alloc hs5 _).grown grow6 (by simp; omega) (fun k hk => (HR.out.lt k hk).1)); have t1 := nearv.cell_keep HC0.out e6; have t2 := nearv.cell_keep HC1.out e6)
            refine hK.out _ _ (⟨t0, t1, t2⟩) (fun hHeld => ?_)
            clear hK K
            try simp only [Act.put, List.setIfInBounds_toArray, List.set_cons_zero, List.set_cons_succ]
            refine wpAnyH_take (i := 9) (oi := ⟨some 66, _, _, _, _, _⟩) (v := ?_) rfl (by kernel_rfl) (by kernel_rfl) (by kernel_rfl) (fun _ _ _ h => h) (Or.inl ⟨by rfl, ?_⟩) (by assumption) ?_
            rotate_left
            · (intro w hSw; (try dsimp only at hSw); go_simp; (try (with_reducible rfl)))
            try simp only [Act.put, List.setIfInBounds_toArray, List.set_cons_zero, List.set_cons_succ]
            refine wpAnyH_ready (rs := [10]) (by kernel_rfl) (by simp) ?_
            refine AllReadyH.cons rfl (fun K hK => ?_) AllReadyH.nil
            go_simp
            refine hK.out _ _ (⟨keep_one t0 (by show w.heap.size ≠ _; omega), keep_one t1 (by show g ≠ _; omega), keep_one t2 (by show g ≠ _; omega)⟩) (fun hHeld => ?_)
            clear hK K
            refine wpAnyH_done (by kernel_rfl) ?_ _
            go_wp2_with fail
            go_roundg g9
            case measure => omega
            case rel =>
              have hg6 : g6 ≠ X := by
                rcases lies6 with h_ | h_
                · intro e_; subst e_; exact HNE.out h_
                · omega
              have bO7 : Blk (w6.setCell ⟨O, 1, none⟩ (.slice (some ⟨g6, 0, none⟩) (m.length + 1) cap6)) O 29 #[.int .i64 (n : Int), .slice (some ⟨g6, 0, none⟩) (m.length + 1) cap6] := by simpa using hk6.set_ 1 (.slice (some ⟨g6, 0, none⟩) (m.length + 1) cap6)
              have o7 := own6.kept (gset (World.grownBy.refl w6 (some O)) 1 (.slice (some ⟨g6, 0, none⟩) (m.length + 1) cap6)) (.inr (own_ne own6 hk6 tne))
              have bR6 := grown_blk (w := w5.drew) HR.out HBR.out tne grow6
              exact ⟨k + 1, some ⟨g6, 0, none⟩, cap6, by omega, by go_num, by rw [← HN.out, List.length_append]; exact bO7, by rw [← HN.out, List.length_append, cellsE_app]; exact o7, bR6.far (by show w.heap.size + 1 ≠ O; omega) _, e6.setCell (by show w.heap.size ≤ O; omega) _, by rw [← HN.out]; simp [Value.ownBlock]; exact hg6, gg.far (by show w.heap.size ≠ O; omega) _, xx.far hXO _⟩
theorem good_len64 {s : Int} {l : List Ed} (h : P2.Good s l) : l.length ≤ 64 := by
  have h0 := h.1
  have h8 := h.2.1
  obtain ⟨n, rfl⟩ : ∃ n : Nat, s = (n : Int) := ⟨s.toNat, by omega⟩
  have h2 : l.length = (gwTo (fun x y => adj l x y) n n).length := congrArg List.length (good_gw h)
  have h3 := gwTo_len (fun x y => adj l x y) n n
  have h4 : n * n ≤ 8 * 8 := Nat.mul_le_mul (by omega) (by omega)
  omega
theorem toggL_len (s x y : Int) (l : List Ed) : (edG (TogOk s l x y) (toggL s l x y)).length ≤ 1048576 := edG_len fun h => gw_len _ (by have := h.1.2.1; omega)
theorem specTogg_any (s x y : Int) (v : Value) (l : List Ed) (w : World) (h : Edges w v l) (hl : l.length ≤ 1048576) (hs1 : -9223372036854775808 ≤ s) (hs2 : s ≤ 9223372036854775807) :
    Calls Try.prog 29 #[.agg #[.int .i64 s, v], .int .i64 x, .int .i64 y] w (RetG w (TogOk s l x y) s (toggL s l x y)) := by
  by_cases hg : TogOk s l x y
  · exact specTogg_yes s x y v l w h (by have := good_len64 hg.1; omega) hs1 hs2 hg
  · exact specTogg_no s x y v l w h hl hs1 hs2 hg
end Go.Proofs.Ytcnfeijniidclaa.togg
