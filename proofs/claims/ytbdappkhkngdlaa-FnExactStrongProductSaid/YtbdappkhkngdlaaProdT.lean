/- The contracts of the program's StrongProduct. -/
import Derived.Test.YtbdappkhkngdlaaProd
import Derived.Test.YtbdappkhkngdlaaProdI
namespace Go.Proofs.Ytbdappkhkngdlaa.prods
open Go.RowKit P2 words edges ints good near adjs fns gws rets mids nearv
set_option linter.unusedVariables false


set_option maxHeartbeats 2000000 in
set_option maxRecDepth 100000 in
theorem implStrong_any (s t : Int) (v u : Value) (l m : List Ed) (w : World) (h : Edges w v l) (hl : l.length ≤ 1048576) (k : Edges w u m) (hm : m.length ≤ 1048576) :
    Calls Try.prog 47 #[.agg #[.int .i64 s, v], .agg #[.int .i64 t, u]] w (RetG w (ProdOk s t l m) (s * t) (prodL true s t l m)) := by
  obtain ⟨A, c, rfl, -⟩ := h.form
  obtain ⟨A2, c2, rfl, -⟩ := k.form
  have H := Lib.hid h
  have HK := Lib.hid k
  have hmf : ∀ (fn : Fn) (first cap : Array Value) (w : World), (Instr.makeFunc fn first cap).run Try.prog w = .ok (.func fn first cap) w := fun _ _ _ _ => rfl
  have b0 : Below w.heap.size w (((w.alloc (.cells #[.int .i64 s, .slice A l.length c] 29)).alloc (.cells #[.int .i64 t, .slice A2 m.length c2] 29)).alloc (.cells #[.int .i64 0, .slice none 0 0] 29)) :=
    (((Below.refl _ _).alloc (Nat.le_refl _) _).alloc (by simp) _).alloc (by simp; omega) _
  have g0 := ((Blk.new w 29 #[.int .i64 s, .slice A l.length c]).alloc (.cells #[.int .i64 t, .slice A2 m.length c2] 29)).alloc (.cells #[.int .i64 0, .slice none 0 0] 29)
  have x0 := (Blk.new (w.alloc (.cells #[.int .i64 s, .slice A l.length c] 29)) 29 #[.int .i64 t, .slice A2 m.length c2]).alloc (.cells #[.int .i64 0, .slice none 0 0] 29)
  have r0 := Blk.new ((w.alloc (.cells #[.int .i64 s, .slice A l.length c] 29)).alloc (.cells #[.int .i64 t, .slice A2 m.length c2] 29)) 29 #[.int .i64 0, .slice none 0 0]
  simp only [World.size_alloc] at x0 r0
  have HG := Lib.hid (hasProd_any s t _ _ l m _ (h.below b0) hl (k.below b0) hm)
  clear h k
  by_cases hg : ProdOk s t l m
  · rw [okG_yes hg] at HG
    obtain ⟨n, k, rfl, rfl, hn8, hk8, hnk⟩ := prod_nat hg
    have HGD := Lib.hid hg
    clear hg
    go_enter Try.func47, Try.ntmps47
    go_wp2_with fail
    refine HG.out.mono ?_
    rintro e w1 ⟨rfl, b1⟩
    have e_w1 := btrans b0 b1
    have g1 := g0.below b1 g0.lt
    have x1 := x0.below b1 x0.lt
    have r1 := r0.below b1 r0.lt
    obtain ⟨p0, p1, -, -⟩ := g1.two
    obtain ⟨m0, m1, -, -⟩ := x1.two
    clear HG b0 b1 g0 r0 x0
    have HA := Lib.hid (show Edges w1 (.slice A l.length c) l from H.out.below e_w1)
    have HB := Lib.hid (good64 HGD.out.1)
    have HC := Lib.hid (good64 HGD.out.2.1)
    go_wp2_with fail
    have HE1 := Lib.hid e_w1
    have HSK := Lib.hid (fun (W : World) (hW : Below w1.heap.size w1 W) => (⟨(hW.cell (p := ⟨w.heap.size, 0, none⟩) g1.lt).trans p0, (hW.cell (p := ⟨w.heap.size, 1, none⟩) g1.lt).trans p1, (hW.cell (p := ⟨w.heap.size + 1, 0, none⟩) x1.lt).trans m0, (hW.cell (p := ⟨w.heap.size + 1, 1, none⟩) x1.lt).trans m1⟩ : W.cell? ⟨w.heap.size, 0, none⟩ = some (.int .i64 (n : Int)) ∧ W.cell? ⟨w.heap.size, 1, none⟩ = some (.slice A l.length c) ∧ W.cell? ⟨w.heap.size + 1, 0, none⟩ = some (.int .i64 (k : Int)) ∧ W.cell? ⟨w.heap.size + 1, 1, none⟩ = some (.slice A2 m.length c2)))
    go_cut [6, 7] (fun a b wx => CutP w wx a b n k A c A2 c2 l m)
    case first =>
      go_region_held3 (fun w' => w'.cell? ⟨w.heap.size, 0, none⟩ = some (.int .i64 (n : Int)) ∧ w'.cell? ⟨w.heap.size, 1, none⟩ = some (.slice A l.length c) ∧ w'.cell? ⟨w.heap.size + 1, 0, none⟩ = some (.int .i64 (k : Int)) ∧ w'.cell? ⟨w.heap.size + 1, 1, none⟩ = some (.slice A2 m.length c2)) (first | go_keep | (refine HSK.out _ ?_; have hz_ := d13.size; have hz2_ := d2.size; have hb_ := d13; go_grown) | (refine HSK.out _ ?_; have hz_ := d2.size; have hb_ := d2; go_grown)) (first
        | (go_at_call 74; have D2 : Below w1.heap.size w1 w1.drew := (Below.refl _ _).drew; have E2 := HA.out.below D2; (with_reducible refine (neighborTest_any (n : Int) (.slice A l.length c) l w1.drew E2 hl HB.out).mono ?_); rintro e w2 ⟨cg, rfl, n2, b2⟩; have d2 : Below w1.heap.size w1 w2 := btrans D2 b2; have e_w2 := btrans HE1.out d2; have g2 := g1.below d2 g1.lt; have x2 := x1.below d2 x1.lt; have r2 := r1.below d2 r1.lt; obtain ⟨k0, k1, -, -⟩ := g2.two; obtain ⟨k2, k3, -, -⟩ := x2.two)
        | (go_at_call 74; have D2 : Below w1.heap.size w1 (w1.alloc (.cells #[.nilFunc] 83)).drew := ((Below.refl _ _).alloc (Nat.le_refl _) _).drew; have E2 := HA.out.below D2; (with_reducible refine (neighborTest_any (n : Int) (.slice A l.length c) l (w1.alloc (.cells #[.nilFunc] 83)).drew E2 hl HB.out).mono ?_); rintro e w2 ⟨cg, rfl, n2, b2⟩; have d2 : Below w1.heap.size w1 w2 := btrans D2 b2; have e_w2 := btrans HE1.out d2; have g2 := g1.below d2 g1.lt; have x2 := x1.below d2 x1.lt; have r2 := r1.below d2 r1.lt; obtain ⟨k0, k1, -, -⟩ := g2.two; obtain ⟨k2, k3, -, -⟩ := x2.two; have B0 : Blk (w1.alloc (.cells #[.nilFunc] 83)).drew w1.heap.size 83 #[.nilFunc] := Blk.new w1 83 #[.nilFunc]; have B6 := B0.below b2 B0.lt; have B6 : Blk _ (w1.heap.size) 83 #[.nilFunc] := B6; obtain ⟨Ba, Bb⟩ := B6.one; have Be := B6.lt)
        | (go_at_call 74; have D2 : Below w1.heap.size w1 ((w1.alloc (.cells #[.nilFunc] 83)).alloc (.cells #[.nilFunc] 83)).drew := (((Below.refl _ _).alloc (Nat.le_refl _) _).alloc (by simp) _).drew; have E2 := HA.out.below D2; (with_reducible refine (neighborTest_any (n : Int) (.slice A l.length c) l ((w1.alloc (.cells #[.nilFunc] 83)).alloc (.cells #[.nilFunc] 83)).drew E2 hl HB.out).mono ?_); rintro e w2 ⟨cg, rfl, n2, b2⟩; have d2 : Below w1.heap.size w1 w2 := btrans D2 b2; have e_w2 := btrans HE1.out d2; have g2 := g1.below d2 g1.lt; have x2 := x1.below d2 x1.lt; have r2 := r1.below d2 r1.lt; obtain ⟨k0, k1, -, -⟩ := g2.two; obtain ⟨k2, k3, -, -⟩ := x2.two; have B0 : Blk ((w1.alloc (.cells #[.nilFunc] 83)).alloc (.cells #[.nilFunc] 83)).drew w1.heap.size 83 #[.nilFunc] := (Blk.new w1 83 #[.nilFunc]).alloc (.cells #[.nilFunc] 83); have B6 := B0.below b2 B0.lt; have B1 : Blk ((w1.alloc (.cells #[.nilFunc] 83)).alloc (.cells #[.nilFunc] 83)).drew (w1.alloc (.cells #[.nilFunc] 83)).heap.size 83 #[.nilFunc] := Blk.new (w1.alloc (.cells #[.nilFunc] 83)) 83 #[.nilFunc]; have B7 := B1.below b2 B1.lt; have B6 : Blk _ (w1.heap.size) 83 #[.nilFunc] := B6; obtain ⟨Ba, Bb⟩ := B6.one; have Be := B6.lt; have B7 : Blk _ (w1.heap.size + 1) 83 #[.nilFunc] := (by simpa using B7); obtain ⟨Bc, Bd⟩ := B7.one; have Bf := B7.lt)
        | (go_at_call 74; have D3 : Below w2.heap.size w2 w2 := (Below.refl _ _); have E3 := HK.out.below (btrans e_w2 D3); (with_reducible refine (neighborTest_any (k : Int) (.slice A2 m.length c2) m w2 E3 hm HC.out).mono ?_); rintro e w3 ⟨ch, rfl, n3, b3⟩; have d3 : Below w2.heap.size w2 w3 := btrans D3 b3; have d13 := btrans d2 d3; have e_w3 := btrans e_w2 d3; have g3 := g2.below d3 g2.lt; have x3 := x2.below d3 x2.lt; have r3 := r2.below d3 r2.lt; have n23 := n2.below d3; obtain ⟨k4, k5, -, -⟩ := g3.two; obtain ⟨k6, k7, -, -⟩ := x3.two; have k8 := g3.lt; have k9 := r3.lt; have k10 := x3.lt; (try (have G6 := B6.below d3 B6.lt; obtain ⟨Ga, Gb⟩ := G6.one; have Ge := G6.lt)); (try (have G7 := B7.below d3 B7.lt; obtain ⟨Gc, Gd⟩ := G7.one; have Gf := G7.lt)))
        | (go_at_call 74; have D3 : Below w2.heap.size w2 (w2.alloc (.cells #[.nilFunc] 83)) := ((Below.refl _ _).alloc (Nat.le_refl _) _); have E3 := HK.out.below (btrans e_w2 D3); (with_reducible refine (neighborTest_any (k : Int) (.slice A2 m.length c2) m (w2.alloc (.cells #[.nilFunc] 83)) E3 hm HC.out).mono ?_); rintro e w3 ⟨ch, rfl, n3, b3⟩; have d3 : Below w2.heap.size w2 w3 := btrans D3 b3; have d13 := btrans d2 d3; have e_w3 := btrans e_w2 d3; have g3 := g2.below d3 g2.lt; have x3 := x2.below d3 x2.lt; have r3 := r2.below d3 r2.lt; have n23 := n2.below d3; obtain ⟨k4, k5, -, -⟩ := g3.two; obtain ⟨k6, k7, -, -⟩ := x3.two; have k8 := g3.lt; have k9 := r3.lt; have k10 := x3.lt; have C0 : Blk (w2.alloc (.cells #[.nilFunc] 83)) w2.heap.size 83 #[.nilFunc] := Blk.new w2 83 #[.nilFunc]; have C6 := C0.below b3 C0.lt; have C6 : Blk _ (w2.heap.size) 83 #[.nilFunc] := C6; obtain ⟨Ca, Cb⟩ := C6.one; have Ce := C6.lt; (try (have G6 := B6.below d3 B6.lt; obtain ⟨Ga, Gb⟩ := G6.one; have Ge := G6.lt)); (try (have G7 := B7.below d3 B7.lt; obtain ⟨Gc, Gd⟩ := G7.one; have Gf := G7.lt)))
        | (go_at_call 74; have D3 : Below w2.heap.size w2 ((w2.alloc (.cells #[.nilFunc] 83)).alloc (.cells #[.nilFunc] 83)) := (((Below.refl _ _).alloc (Nat.le_refl _) _).alloc (by simp) _); have E3 := HK.out.below (btrans e_w2 D3); (with_reducible refine (neighborTest_any (k : Int) (.slice A2 m.length c2) m ((w2.alloc (.cells #[.nilFunc] 83)).alloc (.cells #[.nilFunc] 83)) E3 hm HC.out).mono ?_); rintro e w3 ⟨ch, rfl, n3, b3⟩; have d3 : Below w2.heap.size w2 w3 := btrans D3 b3; have d13 := btrans d2 d3; have e_w3 := btrans e_w2 d3; have g3 := g2.below d3 g2.lt; have x3 := x2.below d3 x2.lt; have r3 := r2.below d3 r2.lt; have n23 := n2.below d3; obtain ⟨k4, k5, -, -⟩ := g3.two; obtain ⟨k6, k7, -, -⟩ := x3.two; have k8 := g3.lt; have k9 := r3.lt; have k10 := x3.lt; have C0 : Blk ((w2.alloc (.cells #[.nilFunc] 83)).alloc (.cells #[.nilFunc] 83)) w2.heap.size 83 #[.nilFunc] := (Blk.new w2 83 #[.nilFunc]).alloc (.cells #[.nilFunc] 83); have C6 := C0.below b3 C0.lt; have C1 : Blk ((w2.alloc (.cells #[.nilFunc] 83)).alloc (.cells #[.nilFunc] 83)) (w2.alloc (.cells #[.nilFunc] 83)).heap.size 83 #[.nilFunc] := Blk.new (w2.alloc (.cells #[.nilFunc] 83)) 83 #[.nilFunc]; have C7 := C1.below b3 C1.lt; have C6 : Blk _ (w2.heap.size) 83 #[.nilFunc] := C6; obtain ⟨Ca, Cb⟩ := C6.one; have Ce := C6.lt; have C7 : Blk _ (w2.heap.size + 1) 83 #[.nilFunc] := (by simpa using C7); obtain ⟨Cc, Cd⟩ := C7.one; have Cf := C7.lt; (try (have G6 := B6.below d3 B6.lt; obtain ⟨Ga, Gb⟩ := G6.one; have Ge := G6.lt)); (try (have G7 := B7.below d3 B7.lt; obtain ⟨Gc, Gd⟩ := G7.one; have Gf := G7.lt))))
      all_goals (go_wp2_with fail; go_meet)
      all_goals
        have y1 := g2.lt; have y2 := x2.lt; have y3 := r2.lt; have y4 := g1.lt; have y5 := x1.lt; have y6 := r1.lt; have y7 := d2.size; have y8 := d3.size
        refine ⟨_, _, rfl, rfl, NearV.of_blk (t := 83) (c := cg) ?_ ?_, NearV.of_blk (t := 83) (c := ch) ?_ ?_, ?_, ?_, ?_, ?_⟩
        rotate_right
        · first
            | (have hz_ := e_w3.size; have hb_ := e_w3; have hz2_ := e_w2.size; have hz3_ := HE1.out.size; have hz4_ := d2.size; go_grown)
        all_goals repeat' (first
          | assumption
          | (with_reducible refine blk_new_eq ?_; simp; done)
          | (with_reducible refine NearIs.far (t := 83) ?_ ?_)
          | (with_reducible refine NearIs.alloc ?_ _)
          | (with_reducible refine Blk.put (a := .nilFunc) ?_)
          | (with_reducible refine Blk.alloc ?_ _)
          | (with_reducible refine Blk.far ?_ ?hne _; case hne => (dsimp only; omega)))
    case rest =>
      obtain ⟨p, q, rfl, rfl, np, nq, bg, bx, br, eB⟩ := hcut
      obtain ⟨j0, j1, -, -⟩ := bg.two
      obtain ⟨j2, j3, -, -⟩ := bx.two
      have F := Lib.hid (strClo_fn q p n k l m _ HGD.out.1 HGD.out.2.1 np nq)
      have HL : Hid (gw (n * k) (pairJ (strJ l m) k) = prodL true (n : Int) (k : Int) l m) := by
        show _ = _
        unfold prodL
        rw [show ((n : Int) * (k : Int)).toNat = n * k from by rw [← Int.natCast_mul]; exact Int.toNat_natCast _, Int.toNat_natCast]
        exact gw_congr fun a b hab _ => str_prod l m hab
      have HM : Hid (((n * k : Nat) : Int) = (n : Int) * (k : Int)) := by show _ = _; simp
      clear np nq g1 x1 r1 p0 p1 m0 m1 HSK HA
      go_wp2_with fail
      refine (prodWhere_any n k A A2 l.length m.length c c2 _ _ _ _ hn8 hk8 hnk F.out).mono ?_
      rintro e w4 ⟨A3, c3, rfl, o3, b3⟩
      have r3 := br.below b3 br.lt
      have HD := Lib.hid (Mid.done (n := ((n * k : Nat) : Int)) (own_base o3 eB.size) r3 (btrans eB b3) (by omega))
      obtain ⟨q0, q1, z0, z1⟩ := r3.two
      rw [HL.out] at HD ⊢
      clear o3 b3 r3 br bg bx eB F j0 j1 j2 j3 e_w1
      generalize n * k = P at *
      go_wp2_with fail
      refine bodyPost_ret (v := .tuple #[.agg #[.int .i64 ((P : Int)), .slice A3 (prodL true (n : Int) (k : Int) l m).length c3], .bool true]) (by simp [results, Try.results47, go_sem, q0, q1]) rfl ((RetG.yes HGD.out HD.out.1 HD.out.2).congr Iff.rfl (fun _ => HM.out) (fun _ => rfl))
  · rw [okG_no hg] at HG
    have HN := Lib.hid hg
    clear hg
    go_enter Try.func47, Try.ntmps47
    go_wp2_with fail
    refine HG.out.mono ?_
    rintro e w1 ⟨rfl, b1⟩
    have e_w1 := btrans b0 b1
    have r1 := r0.below b1 r0.lt
    obtain ⟨q0, q1, z0, z1⟩ := r1.two
    clear HG b0 b1 g0 x0 r0 r1
    go_wp2_with fail
    refine bodyPost_ret (v := .tuple #[.agg #[.int .i64 0, .slice none 0 0], .bool false]) (by simp [results, Try.results47, go_sem, q0, q1]) rfl (RetG.no HN.out (by have hz_ := (e_w1).size; have hb_ := e_w1; go_grown))
end Go.Proofs.Ytbdappkhkngdlaa.prods
