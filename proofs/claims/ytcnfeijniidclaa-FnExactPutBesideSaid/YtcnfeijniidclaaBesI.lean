/- The contract of the program's PutBeside. -/
import Derived.Test.YtcnfeijniidclaaCutP
import Derived.Test.YtcnfeijniidclaaRenM
namespace Go.Proofs.Ytcnfeijniidclaa.bes
open Go.RowKit P2 words edges ints good near adjs fns gws rets mids nearv cutp rens
set_option linter.unusedVariables false

def BesOk (s t : Int) (l m : List Ed) : Prop := P2.Good s l ∧ P2.Good t m ∧ s + t ≤ 8
theorem besL_len (s t : Int) (l m : List Ed) : (edG (BesOk s t l m) (besL (s + t).toNat s l m)).length ≤ 1048576 := edG_len fun h => gw_len _ (by have := h.2.2; omega)
theorem besClo_fn (bn bm bg n k : Nat) (A : Option Addr) (c L : Nat) (l m : List Ed) (w : World) (hg : P2.Good (n : Int) l) (hm : P2.Good (k : Int) m) (h1 : NearV w bn l) (h2 : NearV w bm m)
    (h3 : Blk w bg 29 #[.int .i64 (n : Int), .slice A L c]) (hn : n + k ≤ 8) :
    Fn2 w 68 #[.pointer (some ⟨bn, 0, none⟩), .pointer (some ⟨bm, 0, none⟩), .pointer (some ⟨bg, 0, none⟩)] (n + k) (besJ (n : Int) l m) where
  enter := fun _ _ => by kernel_rfl
  call := fun W hb x y hxy hy => by
    obtain ⟨c1, hc1, hn1⟩ := h1.below hb
    obtain ⟨c2, hc2, hn2⟩ := h2.below hb
    obtain ⟨q0, -, -, -⟩ := (h3.below hb h3.lt).two
    have HN := Lib.hid (near_adj x y (n : Int) c1 l W hg hn1 (in64_small (by omega) (by omega)) (in64_small (by omega) (by omega)))
    have HM := Lib.hid (fun (nq : Nat) => near_adj ((x : Int) - n) ((y : Int) - n) (k : Int) c2 m (W.drewN nq) hm hn2 (in64_small (by omega) (by omega)) (in64_small (by omega) (by omega)))
    show Calls Try.prog 68 #[.int .i64 (x : Int), .int .i64 (y : Int), .pointer (some ⟨bn, 0, none⟩), .pointer (some ⟨bm, 0, none⟩), .pointer (some ⟨bg, 0, none⟩)] W _
    have HJ : Hid (besJ (n : Int) l m x y = (adj l x y || adj m ((x : Int) - n) ((y : Int) - n))) := rfl
    rw [HJ.out]
    clear hn1 hn2 h1 h2 h3 hg hm HJ
    generalize adj l (x : Int) (y : Int) = b1 at *
    generalize adj m ((x : Int) - n) ((y : Int) - n) = b2 at *
    cases b1
    · go_enter Try.func68, Try.ntmps68
      go_wp2_with fail
      refine HN.out.mono ?_
      rintro e w' ⟨rfl, rfl⟩
      go_wp2_with fail
      refine (HM.out 0).mono ?_
      rintro e w' ⟨rfl, rfl⟩
      go_wp2_with fail
      go_ret
      exact ⟨ret_bool rfl, Below.refl _ _⟩
    · go_enter Try.func68, Try.ntmps68
      go_wp2_with fail
      refine HN.out.mono ?_
      rintro e w' ⟨rfl, rfl⟩
      go_wp2_with fail
      go_ret
      exact ⟨ret_bool rfl, Below.refl _ _⟩

set_option maxHeartbeats 2000000 in
set_option maxRecDepth 100000 in
theorem implBes_any (s t : Int) (v u : Value) (l m : List Ed) (w : World) (h : Edges w v l) (hl : l.length ≤ 1048576) (k : Edges w u m) (hm : m.length ≤ 1048576) :
    Calls Try.prog 33 #[.agg #[.int .i64 s, v], .agg #[.int .i64 t, u]] w (RetG w (BesOk s t l m) (s + t) (besL (s + t).toNat s l m)) := by
  obtain ⟨A, c, rfl, -⟩ := h.form
  obtain ⟨A2, c2, rfl, -⟩ := k.form
  have H := Lib.hid h
  have HK := Lib.hid k
  have hmf : ∀ (fn : Fn) (first cap : Array Value) (w : World), (Instr.makeFunc fn first cap).run Try.prog w = .ok (.func fn first cap) w := fun _ _ _ _ => rfl
  have b0 : Below w.heap.size w (((w.alloc (.cells #[.int .i64 s, .slice A l.length c] 29)).alloc (.cells #[.int .i64 t, .slice A2 m.length c2] 29)).alloc (.cells #[.int .i64 0, .slice none 0 0] 29)) :=
    (((Below.refl _ _).alloc (Nat.le_refl _) _).alloc (by simp) _).alloc (by simp; omega) _
  have g0 := ((Blk.new w 29 #[.int .i64 s, .slice A l.length c]).alloc (.cells #[.int .i64 t, .slice A2 m.length c2] 29)).alloc (.cells #[.int .i64 0, .slice none 0 0] 29)
  have x0 := (Blk.new (w.alloc (.cells #[.int .i64 s, .slice A l.length c] 29)) 29 #[.int .i64 t, .slice A2 m.length c2]).alloc (.cells #[.int .i64 0, .slice none 0 0] 29)
  have r0 := Blk.new ((w.alloc (.cells #[.int .i64 s, .slice A l.length c] 29)).alloc (.cells #[.int .i64 t, .slice A2 m.length c2] 29)) 29 #[.int .i64 0, .slice none 0 0]
  simp only [World.size_alloc] at x0 r0
  have HG1 := Lib.hid (implIsGraph_any s _ l _ (h.below b0) hl)
  have HG2 := Lib.hid (fun (W : World) (hW : Below w.heap.size w W) => implIsGraph_any t _ m W (k.below hW) hm)
  clear h k
  by_cases hg : BesOk s t l m
  · rw [goodB_yes hg.1] at HG1
    obtain ⟨n, rfl⟩ : ∃ n : Nat, s = (n : Int) := ⟨s.toNat, by have := hg.1.1; omega⟩
    obtain ⟨k, rfl⟩ : ∃ k : Nat, t = (k : Int) := ⟨t.toNat, by have := hg.2.1.1; omega⟩
    have hnk : n + k ≤ 8 := by have := hg.2.2; omega
    have hn8 : n ≤ 8 := by omega
    have hk8 : k ≤ 8 := by omega
    have HGD := Lib.hid hg
    have HGB := Lib.hid (goodB_yes hg.2.1)
    rw [show ((n : Int) + (k : Int)).toNat = n + k from by omega]
    clear hg
    go_enter Try.func33, Try.ntmps33
    go_wp2_with fail
    refine HG1.out.mono ?_
    rintro e wa ⟨rfl, ba⟩
    have e_wa := btrans b0 ba
    have ga := g0.below ba g0.lt
    have xa := x0.below ba x0.lt
    have ra := r0.below ba r0.lt
    obtain ⟨p0, p1, -, -⟩ := ga.two
    obtain ⟨m0, m1, -, -⟩ := xa.two
    clear HG1 b0 ba g0 r0 x0
    have HG3 := Lib.hid (HG2.out wa e_wa)
    rw [HGB.out] at HG3
    clear HG2
    go_wp2_with fail
    refine HG3.out.mono ?_
    rintro e w1 ⟨rfl, b1⟩
    have e_w1 := btrans e_wa b1
    have g1 := ga.below b1 ga.lt
    have x1 := xa.below b1 xa.lt
    have r1 := ra.below b1 ra.lt
    clear p0 p1 m0 m1 HG3 b1 ga xa ra e_wa
    obtain ⟨p0, p1, -, -⟩ := g1.two
    obtain ⟨m0, m1, -, -⟩ := x1.two
    have HA := Lib.hid (show Edges w1 (.slice A l.length c) l from H.out.below e_w1)
    have HB := Lib.hid (good64 HGD.out.1)
    have HC := Lib.hid (good64 HGD.out.2.1)
    go_wp2_with fail
    have HE1 := Lib.hid e_w1
    have HSK := Lib.hid (fun (W : World) (hW : Below w1.heap.size w1 W) => (⟨(hW.cell (p := ⟨w.heap.size, 0, none⟩) g1.lt).trans p0, (hW.cell (p := ⟨w.heap.size, 1, none⟩) g1.lt).trans p1, (hW.cell (p := ⟨w.heap.size + 1, 0, none⟩) x1.lt).trans m0, (hW.cell (p := ⟨w.heap.size + 1, 1, none⟩) x1.lt).trans m1⟩ : W.cell? ⟨w.heap.size, 0, none⟩ = some (.int .i64 (n : Int)) ∧ W.cell? ⟨w.heap.size, 1, none⟩ = some (.slice A l.length c) ∧ W.cell? ⟨w.heap.size + 1, 0, none⟩ = some (.int .i64 (k : Int)) ∧ W.cell? ⟨w.heap.size + 1, 1, none⟩ = some (.slice A2 m.length c2)))
    go_cut [6, 7] (fun a b wx => CutP w wx a b n k A c A2 c2 l m)
    case first =>
      go_region_held3 (fun w' => w'.cell? ⟨w.heap.size, 0, none⟩ = some (.int .i64 (n : Int)) ∧ w'.cell? ⟨w.heap.size, 1, none⟩ = some (.slice A l.length c) ∧ w'.cell? ⟨w.heap.size + 1, 0, none⟩ = some (.int .i64 (k : Int)) ∧ w'.cell? ⟨w.heap.size + 1, 1, none⟩ = some (.slice A2 m.length c2)) (first | go_keep | (refine HSK.out _ ?_; have hz_ := d13.size; have hz2_ := d2.size; have hb_ := d13; go_grown) | (refine HSK.out _ ?_; have hz_ := d2.size; have hb_ := d2; go_grown)) (first
        | (go_at_call 52; have D2 : Below w1.heap.size w1 w1.drew := (Below.refl _ _).drew; have E2 := HA.out.below D2; (with_reducible refine (neighborTest_any (n : Int) (.slice A l.length c) l w1.drew E2 hl HB.out).mono ?_); rintro e w2 ⟨cg, rfl, n2, b2⟩; have d2 : Below w1.heap.size w1 w2 := btrans D2 b2; have e_w2 := btrans HE1.out d2; have g2 := g1.below d2 g1.lt; have x2 := x1.below d2 x1.lt; have r2 := r1.below d2 r1.lt; obtain ⟨k0, k1, -, -⟩ := g2.two; obtain ⟨k2, k3, -, -⟩ := x2.two)
        | (go_at_call 52; have D2 : Below w1.heap.size w1 (w1.alloc (.cells #[.nilFunc] 63)).drew := ((Below.refl _ _).alloc (Nat.le_refl _) _).drew; have E2 := HA.out.below D2; (with_reducible refine (neighborTest_any (n : Int) (.slice A l.length c) l (w1.alloc (.cells #[.nilFunc] 63)).drew E2 hl HB.out).mono ?_); rintro e w2 ⟨cg, rfl, n2, b2⟩; have d2 : Below w1.heap.size w1 w2 := btrans D2 b2; have e_w2 := btrans HE1.out d2; have g2 := g1.below d2 g1.lt; have x2 := x1.below d2 x1.lt; have r2 := r1.below d2 r1.lt; obtain ⟨k0, k1, -, -⟩ := g2.two; obtain ⟨k2, k3, -, -⟩ := x2.two; have B0 : Blk (w1.alloc (.cells #[.nilFunc] 63)).drew w1.heap.size 63 #[.nilFunc] := Blk.new w1 63 #[.nilFunc]; have B6 := B0.below b2 B0.lt; have B6 : Blk _ (w1.heap.size) 63 #[.nilFunc] := B6; obtain ⟨Ba, Bb⟩ := B6.one; have Be := B6.lt)
        | (go_at_call 52; have D2 : Below w1.heap.size w1 ((w1.alloc (.cells #[.nilFunc] 63)).alloc (.cells #[.nilFunc] 63)).drew := (((Below.refl _ _).alloc (Nat.le_refl _) _).alloc (by simp) _).drew; have E2 := HA.out.below D2; (with_reducible refine (neighborTest_any (n : Int) (.slice A l.length c) l ((w1.alloc (.cells #[.nilFunc] 63)).alloc (.cells #[.nilFunc] 63)).drew E2 hl HB.out).mono ?_); rintro e w2 ⟨cg, rfl, n2, b2⟩; have d2 : Below w1.heap.size w1 w2 := btrans D2 b2; have e_w2 := btrans HE1.out d2; have g2 := g1.below d2 g1.lt; have x2 := x1.below d2 x1.lt; have r2 := r1.below d2 r1.lt; obtain ⟨k0, k1, -, -⟩ := g2.two; obtain ⟨k2, k3, -, -⟩ := x2.two; have B0 : Blk ((w1.alloc (.cells #[.nilFunc] 63)).alloc (.cells #[.nilFunc] 63)).drew w1.heap.size 63 #[.nilFunc] := (Blk.new w1 63 #[.nilFunc]).alloc (.cells #[.nilFunc] 63); have B6 := B0.below b2 B0.lt; have B1 : Blk ((w1.alloc (.cells #[.nilFunc] 63)).alloc (.cells #[.nilFunc] 63)).drew (w1.alloc (.cells #[.nilFunc] 63)).heap.size 63 #[.nilFunc] := Blk.new (w1.alloc (.cells #[.nilFunc] 63)) 63 #[.nilFunc]; have B7 := B1.below b2 B1.lt; have B6 : Blk _ (w1.heap.size) 63 #[.nilFunc] := B6; obtain ⟨Ba, Bb⟩ := B6.one; have Be := B6.lt; have B7 : Blk _ (w1.heap.size + 1) 63 #[.nilFunc] := (by simpa using B7); obtain ⟨Bc, Bd⟩ := B7.one; have Bf := B7.lt)
        | (go_at_call 52; have D3 : Below w2.heap.size w2 w2 := (Below.refl _ _); have E3 := HK.out.below (btrans e_w2 D3); (with_reducible refine (neighborTest_any (k : Int) (.slice A2 m.length c2) m w2 E3 hm HC.out).mono ?_); rintro e w3 ⟨ch, rfl, n3, b3⟩; have d3 : Below w2.heap.size w2 w3 := btrans D3 b3; have d13 := btrans d2 d3; have e_w3 := btrans e_w2 d3; have g3 := g2.below d3 g2.lt; have x3 := x2.below d3 x2.lt; have r3 := r2.below d3 r2.lt; have n23 := n2.below d3; obtain ⟨k4, k5, -, -⟩ := g3.two; obtain ⟨k6, k7, -, -⟩ := x3.two; have k8 := g3.lt; have k9 := r3.lt; have k10 := x3.lt; (try (have G6 := B6.below d3 B6.lt; obtain ⟨Ga, Gb⟩ := G6.one; have Ge := G6.lt)); (try (have G7 := B7.below d3 B7.lt; obtain ⟨Gc, Gd⟩ := G7.one; have Gf := G7.lt)))
        | (go_at_call 52; have D3 : Below w2.heap.size w2 (w2.alloc (.cells #[.nilFunc] 63)) := ((Below.refl _ _).alloc (Nat.le_refl _) _); have E3 := HK.out.below (btrans e_w2 D3); (with_reducible refine (neighborTest_any (k : Int) (.slice A2 m.length c2) m (w2.alloc (.cells #[.nilFunc] 63)) E3 hm HC.out).mono ?_); rintro e w3 ⟨ch, rfl, n3, b3⟩; have d3 : Below w2.heap.size w2 w3 := btrans D3 b3; have d13 := btrans d2 d3; have e_w3 := btrans e_w2 d3; have g3 := g2.below d3 g2.lt; have x3 := x2.below d3 x2.lt; have r3 := r2.below d3 r2.lt; have n23 := n2.below d3; obtain ⟨k4, k5, -, -⟩ := g3.two; obtain ⟨k6, k7, -, -⟩ := x3.two; have k8 := g3.lt; have k9 := r3.lt; have k10 := x3.lt; have C0 : Blk (w2.alloc (.cells #[.nilFunc] 63)) w2.heap.size 63 #[.nilFunc] := Blk.new w2 63 #[.nilFunc]; have C6 := C0.below b3 C0.lt; have C6 : Blk _ (w2.heap.size) 63 #[.nilFunc] := C6; obtain ⟨Ca, Cb⟩ := C6.one; have Ce := C6.lt; (try (have G6 := B6.below d3 B6.lt; obtain ⟨Ga, Gb⟩ := G6.one; have Ge := G6.lt)); (try (have G7 := B7.below d3 B7.lt; obtain ⟨Gc, Gd⟩ := G7.one; have Gf := G7.lt)))
        | (go_at_call 52; have D3 : Below w2.heap.size w2 ((w2.alloc (.cells #[.nilFunc] 63)).alloc (.cells #[.nilFunc] 63)) := (((Below.refl _ _).alloc (Nat.le_refl _) _).alloc (by simp) _); have E3 := HK.out.below (btrans e_w2 D3); (with_reducible refine (neighborTest_any (k : Int) (.slice A2 m.length c2) m ((w2.alloc (.cells #[.nilFunc] 63)).alloc (.cells #[.nilFunc] 63)) E3 hm HC.out).mono ?_); rintro e w3 ⟨ch, rfl, n3, b3⟩; have d3 : Below w2.heap.size w2 w3 := btrans D3 b3; have d13 := btrans d2 d3; have e_w3 := btrans e_w2 d3; have g3 := g2.below d3 g2.lt; have x3 := x2.below d3 x2.lt; have r3 := r2.below d3 r2.lt; have n23 := n2.below d3; obtain ⟨k4, k5, -, -⟩ := g3.two; obtain ⟨k6, k7, -, -⟩ := x3.two; have k8 := g3.lt; have k9 := r3.lt; have k10 := x3.lt; have C0 : Blk ((w2.alloc (.cells #[.nilFunc] 63)).alloc (.cells #[.nilFunc] 63)) w2.heap.size 63 #[.nilFunc] := (Blk.new w2 63 #[.nilFunc]).alloc (.cells #[.nilFunc] 63); have C6 := C0.below b3 C0.lt; have C1 : Blk ((w2.alloc (.cells #[.nilFunc] 63)).alloc (.cells #[.nilFunc] 63)) (w2.alloc (.cells #[.nilFunc] 63)).heap.size 63 #[.nilFunc] := Blk.new (w2.alloc (.cells #[.nilFunc] 63)) 63 #[.nilFunc]; have C7 := C1.below b3 C1.lt; have C6 : Blk _ (w2.heap.size) 63 #[.nilFunc] := C6; obtain ⟨Ca, Cb⟩ := C6.one; have Ce := C6.lt; have C7 : Blk _ (w2.heap.size + 1) 63 #[.nilFunc] := (by simpa using C7); obtain ⟨Cc, Cd⟩ := C7.one; have Cf := C7.lt; (try (have G6 := B6.below d3 B6.lt; obtain ⟨Ga, Gb⟩ := G6.one; have Ge := G6.lt)); (try (have G7 := B7.below d3 B7.lt; obtain ⟨Gc, Gd⟩ := G7.one; have Gf := G7.lt))))
      all_goals (go_wp2_with fail; go_meet)
      all_goals
        have y1 := g2.lt; have y2 := x2.lt; have y3 := r2.lt; have y4 := g1.lt; have y5 := x1.lt; have y6 := r1.lt; have y7 := d2.size; have y8 := d3.size
        refine ⟨_, _, rfl, rfl, NearV.of_blk (t := 63) (c := cg) ?_ ?_, NearV.of_blk (t := 63) (c := ch) ?_ ?_, ?_, ?_, ?_, ?_⟩
        rotate_right
        · first
            | (have hz_ := e_w3.size; have hb_ := e_w3; have hz2_ := e_w2.size; have hz3_ := HE1.out.size; have hz4_ := d2.size; go_grown)
        all_goals repeat' (first
          | assumption
          | (with_reducible refine blk_new_eq ?_; simp; done)
          | (with_reducible refine NearIs.far (t := 63) ?_ ?_)
          | (with_reducible refine NearIs.alloc ?_ _)
          | (with_reducible refine Blk.put (a := .nilFunc) ?_)
          | (with_reducible refine Blk.alloc ?_ _)
          | (with_reducible refine Blk.far ?_ ?hne _; case hne => (dsimp only; omega)))
    case rest =>
      obtain ⟨p, q, rfl, rfl, np, nq, bg, bx, br, eB⟩ := hcut
      obtain ⟨j0, j1, -, -⟩ := bg.two
      obtain ⟨j2, j3, -, -⟩ := bx.two
      have F := Lib.hid (besClo_fn p q w.heap.size n k A c l.length l m _ HGD.out.1 HGD.out.2.1 np nq bg hnk)
      have HM : Hid (((n + k : Nat) : Int) = (n : Int) + (k : Int)) := by show _ = _; simp
      clear np nq g1 x1 r1 p0 p1 m0 m1 HSK HA
      have br9 := br
      obtain ⟨z9, z8, -, -⟩ := br9.two
      have HF := Lib.hid (graphWhere_any (n + k) 68 _ _ _ hnk F.out)
      rw [HM.out] at HF
      go_wp2_with fail
      refine HF.out.mono ?_
      rintro e w4 ⟨A3, c3, rfl, o3, b3⟩
      have r3 := br.below b3 br.lt
      have HD := Lib.hid (Mid.done (n := ((n + k : Nat) : Int)) (own_base o3 eB.size) r3 (btrans eB b3) (by omega))
      obtain ⟨q0, q1, z0, z1⟩ := r3.two
      clear o3 b3 r3 br br9 bg bx eB F HF j0 j1 j2 j3 e_w1
      rw [HM.out] at HD
      go_wp2_with fail
      refine bodyPost_ret (v := .tuple #[.agg #[.int .i64 ((n : Int) + (k : Int)), .slice A3 (gw (n + k) (besJ (n : Int) l m)).length c3], .bool true]) (by simp [results, Try.results33, go_sem, q0, q1]) rfl (RetG.yes (l := besL (n + k) (n : Int) l m) HGD.out HD.out.1 HD.out.2)
  · have HN := Lib.hid hg
    by_cases h1 : P2.Good s l
    · rw [goodB_yes h1] at HG1
      by_cases h2 : P2.Good t m
      · have HGB := Lib.hid (goodB_yes h2)
        have hst : 8 < s + t := by
          apply Classical.byContradiction
          intro hh
          exact hg ⟨h1, h2, by omega⟩
        have hs := h1.1
        have hs8 := h1.2.1
        have ht := h2.1
        have ht8 := h2.2.1
        clear hg h1 h2
        go_enter Try.func33, Try.ntmps33
        go_wp2_with fail
        refine HG1.out.mono ?_
        rintro e wa ⟨rfl, ba⟩
        have e_wa := btrans b0 ba
        have ga := g0.below ba g0.lt
        have xa := x0.below ba x0.lt
        have ra := r0.below ba r0.lt
        obtain ⟨p0, p1, -, -⟩ := ga.two
        obtain ⟨m0, m1, -, -⟩ := xa.two
        clear HG1 b0 ba g0 r0 x0
        have HG3 := Lib.hid (HG2.out wa e_wa)
        rw [HGB.out] at HG3
        clear HG2
        go_wp2_with fail
        refine HG3.out.mono ?_
        rintro e w1 ⟨rfl, b1⟩
        have e_w1 := btrans e_wa b1
        have g1 := ga.below b1 ga.lt
        have x1 := xa.below b1 xa.lt
        have r1 := ra.below b1 ra.lt
        clear p0 p1 m0 m1 HG3 b1 ga xa ra e_wa
        obtain ⟨p0, p1, -, -⟩ := g1.two
        obtain ⟨m0, m1, -, -⟩ := x1.two
        obtain ⟨q0, q1, z0, z1⟩ := r1.two
        go_wp2_with fail
        refine bodyPost_ret (v := .tuple #[.agg #[.int .i64 0, .slice none 0 0], .bool false]) (by simp [results, Try.results33, go_sem, q0, q1]) rfl (RetG.no HN.out (by have hz_ := (e_w1).size; have hb_ := e_w1; go_grown))
      · have HGB := Lib.hid (goodB_no h2)
        clear hg h1 h2
        go_enter Try.func33, Try.ntmps33
        go_wp2_with fail
        refine HG1.out.mono ?_
        rintro e wa ⟨rfl, ba⟩
        have e_wa := btrans b0 ba
        have ga := g0.below ba g0.lt
        have xa := x0.below ba x0.lt
        have ra := r0.below ba r0.lt
        obtain ⟨p0, p1, -, -⟩ := ga.two
        obtain ⟨m0, m1, -, -⟩ := xa.two
        clear HG1 b0 ba g0 r0 x0
        have HG3 := Lib.hid (HG2.out wa e_wa)
        rw [HGB.out] at HG3
        clear HG2
        go_wp2_with fail
        refine HG3.out.mono ?_
        rintro e w1 ⟨rfl, b1⟩
        have e_w1 := btrans e_wa b1
        have r1 := ra.below b1 ra.lt
        clear p0 p1 m0 m1 HG3 b1 ga xa ra e_wa
        obtain ⟨q0, q1, z0, z1⟩ := r1.two
        go_wp2_with fail
        refine bodyPost_ret (v := .tuple #[.agg #[.int .i64 0, .slice none 0 0], .bool false]) (by simp [results, Try.results33, go_sem, q0, q1]) rfl (RetG.no HN.out (by have hz_ := (e_w1).size; have hb_ := e_w1; go_grown))
    · rw [goodB_no h1] at HG1
      clear hg h1
      go_enter Try.func33, Try.ntmps33
      go_wp2_with fail
      refine HG1.out.mono ?_
      rintro e w1 ⟨rfl, b1⟩
      have e_w1 := btrans b0 b1
      have r1 := r0.below b1 r0.lt
      obtain ⟨q0, q1, z0, z1⟩ := r1.two
      clear HG1 b0 b1 g0 x0 r0 r1
      go_wp2_with fail
      refine bodyPost_ret (v := .tuple #[.agg #[.int .i64 0, .slice none 0 0], .bool false]) (by simp [results, Try.results33, go_sem, q0, q1]) rfl (RetG.no HN.out (by have hz_ := (e_w1).size; have hb_ := e_w1; go_grown))
end Go.Proofs.Ytcnfeijniidclaa.bes
