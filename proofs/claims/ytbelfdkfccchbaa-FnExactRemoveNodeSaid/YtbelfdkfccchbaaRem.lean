/- The contract of the model's RemoveNode. -/
import Derived.Test.YtbelfdkfccchbaaInd
namespace Go.Proofs.Ytbelfdkfccchbaa.inds
open Go.RowKit P2 words edges ints good near adjs fns gws rets mids nearv sets
set_option linter.unusedVariables false

set_option maxHeartbeats 2000000 in
set_option maxRecDepth 100000 in
theorem specRem_any (s x : Int) (v : Value) (l : List Ed) (w : World) (h : Edges w v l) (hl : l.length ≤ 1048576) (hs1 : -9223372036854775808 ≤ s) (hs2 : s ≤ 9223372036854775807) :
    Calls Try.prog 58 #[.agg #[.int .i64 s, v], .int .i64 x] w (RetG w (RemOk s l x) (s - 1) (remL l s x)) := by
  obtain ⟨A, c, rfl, -⟩ := h.form
  have H := Lib.hid h
  have b0 : Below w.heap.size w ((w.alloc (.cells #[.int .i64 s, .slice A l.length c] 26)).alloc (.cells #[.int .i64 0, .slice none 0 0] 26)) :=
    ((Below.refl _ _).alloc (Nat.le_refl _) _).alloc (by simp) _
  have g0 := (Blk.new w 26 #[.int .i64 s, .slice A l.length c]).alloc (.cells #[.int .i64 0, .slice none 0 0] 26)
  have r0 := Blk.new (w.alloc (.cells #[.int .i64 s, .slice A l.length c] 26)) 26 #[.int .i64 0, .slice none 0 0]
  rw [World.size_alloc] at r0
  have HG := Lib.hid (l2Good_any s _ l _ (h.below b0) hl hs1 hs2)
  clear h
  by_cases hgd : P2.Good s l
  · rw [goodB_yes hgd] at HG
    have hs0 := hgd.1
    have hs8 := hgd.2.1
    obtain ⟨n, hn⟩ : ∃ n : Nat, s = (n : Int) := ⟨s.toNat, by omega⟩
    subst hn
    have hn8 : n ≤ 8 := by omega
    by_cases hx : 0 ≤ x ∧ x < (n : Int)
    · have hI : inB x 0 ((n : Int) - 1) = true := by simp [inB]; omega
      have hg : RemOk (n : Int) l x := ⟨hgd, hx⟩
      have HB := Lib.hid (but_len hg.2.1 hg.2.2)
      have HS := Lib.hid (but_ok hg)
      have HGD := Lib.hid hg
      have hn1 : 1 ≤ n := by omega
      clear hg hgd hx
      go_enter Try.func58, Try.ntmps58
      go_wp2_with fail
      refine HG.out.mono ?_
      rintro e w1 ⟨rfl, b1⟩
      have e_w1 := btrans b0 b1
      have g1 := g0.below b1 g0.lt
      have r1 := r0.below b1 r0.lt
      obtain ⟨p0, p1, -, -⟩ := g1.two
      clear HG b0 b1 g0 r0
      go_wp2_with fail
      refine (l2Node_any (n : Int) x (.slice A l.length c) l w1 (H.out.below e_w1) hs0 hs8).mono ?_
      rw [hI]
      rintro e w2 ⟨rfl, b2⟩
      have e_w2 := btrans e_w1 b2
      have g2 := g1.below b2 g1.lt
      have r2 := r1.below b2 r1.lt
      clear p0 p1 g1 r1 b2 e_w1 hI
      obtain ⟨p0, p1, -, -⟩ := g2.two
      obtain ⟨q0, q1, z0, z1⟩ := r2.two
      have y1 := g2.lt
      have y2 := r2.lt
      go_wp2_with fail
      go_region_with
        (first
        | (go_at_call 88; refine (l2All_any n (.slice A l.length c) w2.drew hn8).mono ?_; rintro e w3 ⟨A3, c3, rfl, o3, b3⟩; have d3 : Below w2.heap.size w2 w3 := (Below.refl _ _).drew.trans b3; have g3 := g2.below d3 g2.lt; have r3 := r2.below d3 r2.lt; obtain ⟨k0, k1, -, -⟩ := g3.two; obtain ⟨k2, k3, k4, k5⟩ := r3.two)
        | (go_at_call 101; refine (l2Without_any (.slice A3 (allN n).length c3) (allN n) x w3 (Reads.of_own o3) (by rw [allN_len]; omega)).mono ?_; rintro e w4 ⟨A4, c4, rfl, o4, b4⟩; have g4 := g3.below b4 g3.lt; have r4 := r3.below b4 r3.lt; obtain ⟨k6, k7, -, -⟩ := g4.two; obtain ⟨k8, k9, k10, k11⟩ := r4.two)
        | (go_at_call 97; refine (l2Ind_any (n : Int) (.slice A l.length c) (.slice A4 (but (allN n) x).length c4) l (but (allN n) x) w4 (H.out.below (btrans e_w2 (btrans d3 b4))) hl (Reads.of_own o4) (by rw [HB.out]; omega)).mono ?_; rintro e w5 ⟨A5, c5, rfl, o5, b5⟩; have r5 := r4.below b5 r4.lt; obtain ⟨k12, k13, k14, k15⟩ := r5.two))
      all_goals
        have e_w4 : Below w.heap.size w w4 := btrans e_w2 (btrans d3 b4)
        rw [HB.out] at *
        have HD := Lib.hid (Mid.done (n := ((n - 1 : Nat) : Int)) (own_base o5 e_w4.size) r5 (btrans e_w4 b5) (by omega))
        have HE : Hid (((n - 1 : Nat) : Int) = (n : Int) - 1) := by show _ = _; omega
        clear o5 b5 r5 r4 r3 r2 o3 o4 b3 b4 d3 g2 g3 g4 p0 p1 k0 k1 k2 k3 k4 k5 k6 k7 k8 k9 k10 k11 q0 q1 z0 z1
        go_wp2_with fail
        rw [← HE.out]
        refine bodyPost_ret (v := .tuple #[.agg #[.int .i64 (((n - 1 : Nat) : Int)), .slice A5 (indL l (but (allN n) x)).length c5], .bool true]) (by simp [results, Try.results58, go_sem, k12, k13]) rfl (RetG.yes (l := remL l (n : Int) x) HGD.out HD.out.1 HD.out.2)
    · have hI : inB x 0 ((n : Int) - 1) = false := by simp [inB]; omega
      have HN : Hid (¬ RemOk (n : Int) l x) := fun h => hx h.2
      clear hgd hx
      go_enter Try.func58, Try.ntmps58
      go_wp2_with fail
      refine HG.out.mono ?_
      rintro e w1 ⟨rfl, b1⟩
      have e_w1 := btrans b0 b1
      have g1 := g0.below b1 g0.lt
      have r1 := r0.below b1 r0.lt
      obtain ⟨p0, p1, -, -⟩ := g1.two
      clear HG b0 b1 g0 r0
      go_wp2_with fail
      refine (l2Node_any (n : Int) x (.slice A l.length c) l w1 (H.out.below e_w1) hs0 hs8).mono ?_
      rw [hI]
      rintro e w2 ⟨rfl, b2⟩
      have e_w2 := btrans e_w1 b2
      have r2 := r1.below b2 r1.lt
      obtain ⟨q0, q1, z0, z1⟩ := r2.two
      clear p0 p1 g1 r1 b2 r2 hI
      go_wp2_with fail
      refine bodyPost_ret (v := .tuple #[.agg #[.int .i64 0, .slice none 0 0], .bool false]) (by simp [results, Try.results58, go_sem, q0, q1]) rfl (RetG.no HN.out (by have hz_ := (e_w2).size; have hb_ := e_w2; go_grown))
  · rw [goodB_no hgd] at HG
    have HN : Hid (¬ RemOk s l x) := fun h => hgd h.1
    clear hgd
    go_enter Try.func58, Try.ntmps58
    go_wp2_with fail
    refine HG.out.mono ?_
    rintro e w1 ⟨rfl, b1⟩
    have e_w1 := btrans b0 b1
    have r1 := r0.below b1 r0.lt
    obtain ⟨q0, q1, z0, z1⟩ := r1.two
    clear HG b0 b1 g0 r0 r1
    go_wp2_with fail
    refine bodyPost_ret (v := .tuple #[.agg #[.int .i64 0, .slice none 0 0], .bool false]) (by simp [results, Try.results58, go_sem, q0, q1]) rfl (RetG.no HN.out (by have hz_ := (e_w1).size; have hb_ := e_w1; go_grown))
end Go.Proofs.Ytbelfdkfccchbaa.inds
