/- Forests: the contracts of the model's IsForest and ForestDepth. -/
import Derived.Handy
import Derived.Test.YtphlpipbhaiijaaForS
import Derived.Deep.DeepCutAuto
namespace Go.Proofs.Ytphlpipbhaiijaa.forests
open Go.RowKit P2 words edges ints good adjs fns sets rets covs reach bags degs bitsI lays balls
set_option linter.unusedVariables false

theorem for_ok {n : Nat} {l : List Ed} {tl : List Int} (hg : P2.Good (n : Int) l) : okG (ForOk (n : Int) l tl) = okG (ForS n l tl) := by
  rw [Bool.eq_iff_iff, okG_iff, okG_iff]
  unfold ForOk
  rw [Int.toNat_natCast]
  exact ⟨fun h => h.2, fun h => ⟨hg, h⟩⟩
set_option maxHeartbeats 1000000 in
theorem specIsForest_any (s : Int) (v u : Value) (l : List Ed) (tl : List Int) (w : World) (h : Edges w v l) (hl : l.length ≤ 1048576) (hu : Ints w u tl) (htl : tl.length ≤ 1048576) (hs1 : -9223372036854775808 ≤ s) (hs2 : s ≤ 9223372036854775807) :
    Calls Try.prog 29 #[.agg #[.int .i64 s, v], u] w fun e w' => e = .returned (.tuple #[.bool (okG (ForOk s l tl)), .bool (goodB s l)]) ∧ Below w.heap.size w w' := by
  obtain ⟨A, c, rfl, -⟩ := h.form
  have b0 : Below w.heap.size w (w.alloc (.cells #[.int .i64 s, .slice A l.length c] 29)) := (Below.refl _ _).alloc (Nat.le_refl _) _
  have g0 := Blk.new w 29 #[.int .i64 s, .slice A l.length c]
  have H := Lib.hid h
  have HU := Lib.hid hu
  have HG := Lib.hid (l2Good_any s _ l _ (h.below b0) hl hs1 hs2)
  clear h hu
  by_cases hgd : P2.Good s l
  · rw [goodB_yes hgd] at HG ⊢
    have h0 := hgd.1
    have h8 := hgd.2.1
    obtain ⟨n, rfl⟩ : ∃ n : Nat, s = (n : Int) := ⟨s.toNat, by omega⟩
    have HV := Lib.hid (for_ok (tl := tl) hgd)
    have HGD := Lib.hid hgd
    clear hgd
    go_enter Try.func29, Try.ntmps29
    go_wp2_with fail
    refine HG.out.mono ?_
    rintro e w1 ⟨rfl, b1⟩
    have e1 := btrans b0 b1
    have g1 := g0.below b1 g0.lt
    obtain ⟨p0, p1, -, -⟩ := g1.two
    clear HG b0 b1 g0
    go_wp2_with fail
    refine (l7Forest_any n (.slice A l.length c) u l tl w1 (H.out.below e1) hl (HU.out.below e1) htl HGD.out).mono ?_
    rintro e w2 ⟨rfl, b2⟩
    go_wp2_with fail
    go_ret2
    exact ⟨retBB' HV.out.symm rfl, btrans e1 b2⟩
  · rw [goodB_no hgd] at HG ⊢
    have HN : Hid (okG (ForOk s l tl) = false) := okG_no fun hh => hgd hh.1
    clear hgd
    go_enter Try.func29, Try.ntmps29
    go_wp2_with fail
    refine HG.out.mono ?_
    rintro e w1 ⟨rfl, b1⟩
    go_wp2_with fail
    go_ret2
    exact ⟨retBB' HN.out.symm rfl, btrans b0 b1⟩
set_option maxHeartbeats 2000000 in
set_option maxRecDepth 100000 in
theorem specDepth_any (s : Int) (v u : Value) (l : List Ed) (tl : List Int) (w : World) (h : Edges w v l) (hl : l.length ≤ 1048576) (hu : Ints w u tl) (htl : tl.length ≤ 1048576) (hs1 : -9223372036854775808 ≤ s) (hs2 : s ≤ 9223372036854775807) :
    Calls Try.prog 31 #[.agg #[.int .i64 s, v], u] w (RetN w (ForOk s l tl) (grL (depL s.toNat tl))) := by
  obtain ⟨A, c, rfl, -⟩ := h.form
  have b0 : Below w.heap.size w (w.alloc (.cells #[.int .i64 s, .slice A l.length c] 29)) := (Below.refl _ _).alloc (Nat.le_refl _) _
  have g0 := Blk.new w 29 #[.int .i64 s, .slice A l.length c]
  have H := Lib.hid h
  have HU := Lib.hid hu
  have HG := Lib.hid (l2Good_any s _ l _ (h.below b0) hl hs1 hs2)
  clear h hu
  by_cases hgd : P2.Good s l
  · rw [goodB_yes hgd] at HG
    have h0 := hgd.1
    have h8 := hgd.2.1
    obtain ⟨n, rfl⟩ : ∃ n : Nat, s = (n : Int) := ⟨s.toNat, by omega⟩
    have hn : n ≤ 8 := by omega
    have HF := Lib.hid (fun (W : World) (hW : Below w.heap.size w W) => l7Forest_any n (.slice A l.length c) u l tl W (H.out.below hW) hl (HU.out.below hW) htl hgd)
    by_cases hok : ForS n l tl
    · rw [okG_yes hok] at HF
      have HOK : Hid (ForOk (n : Int) l tl) := ⟨hgd, by rw [Int.toNat_natCast]; exact hok⟩
      have HS := Lib.hid hok
      rw [Int.toNat_natCast]
      clear hgd hok
      go_enter Try.func31, Try.ntmps31
      go_wp2_with fail
      refine HG.out.mono ?_
      rintro e w1 ⟨rfl, b1⟩
      have e1 := btrans b0 b1
      have g1 := g0.below b1 g0.lt
      obtain ⟨p0, p1, -, -⟩ := g1.two
      clear HG b0 b1 g0
      go_wp2_with fail
      refine (HF.out w1 e1).mono ?_
      rintro e w2 ⟨rfl, b2⟩
      have HB2 := Lib.hid (btrans e1 b2)
      have HG2 := Lib.hid (g1.below b2 g1.lt)
      clear p0 p1 e1 g1 b2 HF
      go_wp2_with fail
      go_loopg [6, 7] n (fun g mv iv wr => ∃ x : Nat, x + g = n ∧ iv = .int .i64 (x : Int) ∧ mv = .int .i64 (grL ((List.range x).map (depF n tl))) ∧ Blk wr w.heap.size 29 #[.int .i64 (n : Int), .slice A l.length c] ∧ Below w.heap.size w wr)
      case atStart => exact ⟨0, by omega, rfl, rfl, HG2.out, HB2.out⟩
      case round =>
        clear HG2 HB2
        obtain ⟨x, hxg, rfl, rfl, hgb, hB⟩ := hrel
        obtain ⟨p0, p1, -, -⟩ := hgb.two
        have HG := Lib.hid hgb
        have HB := Lib.hid hB
        cases gk with
        | zero =>
          obtain rfl : x = n := by omega
          clear hgb hB
          go_wp2_with fail
          go_ret2
          exact RetN.yes HOK.out HB.out
        | succ g2 =>
          have hlt : x < n := by omega
          have hlt' : (x : Int) < (n : Int) := by omega
          have HAB := Lib.hid (l7Above_any n x u tl wr (HU.out.below hB) hn HS.out.1 hlt)
          have HCN := Lib.hid (fun (d : Nat) (hd : AncIs tl n (x : Int) d) => hd.count HS.out.1 hlt (HS.out.2.1 x hlt))
          have HSU : Hid (grL ((List.range (x + 1)).map (depF n tl)) = max (grL ((List.range x).map (depF n tl))) ((((nw (abvB tl x) n).length : Nat) : Int) + 1)) := by show _ = _; rw [List.range_succ, List.map_append]; exact grL_snoc _ _
          have HMO := Lib.hid (fun (a b : Int) (W : World) => minmax.l1Most_any a b W)
          clear hgb hB
          generalize grL ((List.range x).map (depF n tl)) = m0 at *
          go_wp2_with fail
          refine HAB.out.mono ?_
          rintro e w3 ⟨d, hd, A5, c5, rfl, o5, b5⟩
          have HDV : Hid ((1 : Int) + (d : Int) = (((nw (abvB tl x) n).length : Nat) : Int) + 1) := by show _ = _; rw [HCN.out d hd]; omega
          have HB3 := Lib.hid (btrans HB.out b5)
          have HG3 := Lib.hid (HG.out.below b5 HG.out.lt)
          have hd9 := hd.2.2
          have hw1 : IntKind.i64.wrap ((1 : Int) + (d : Int)) = (1 : Int) + (d : Int) := IntWalk.i64_in _ (by omega)
          clear o5 b5 hd p0 p1
          go_wp2_with fail
          refine (HMO.out _ _ _).mono ?_
          rintro e w' ⟨rfl, rfl⟩
          go_wp2_with fail
          go_roundg g2
          case measure => omega
          case rel => exact ⟨x + 1, by omega, by go_num, by rw [HSU.out, ← HDV.out], HG3.out, HB3.out⟩
    · rw [okG_no hok] at HF
      have HN : Hid (¬ ForOk (n : Int) l tl) := fun h => hok (by have := h.2; rwa [Int.toNat_natCast] at this)
      clear hgd hok
      go_enter Try.func31, Try.ntmps31
      go_wp2_with fail
      refine HG.out.mono ?_
      rintro e w1 ⟨rfl, b1⟩
      have e1 := btrans b0 b1
      have g1 := g0.below b1 g0.lt
      obtain ⟨p0, p1, -, -⟩ := g1.two
      clear HG b0 b1 g0
      go_wp2_with fail
      refine (HF.out w1 e1).mono ?_
      rintro e w2 ⟨rfl, b2⟩
      go_wp2_with fail
      go_ret2
      exact RetN.no HN.out (btrans e1 b2)
  · rw [goodB_no hgd] at HG
    have HN : Hid (¬ ForOk s l tl) := fun h => hgd h.1
    clear hgd
    go_enter Try.func31, Try.ntmps31
    go_wp2_with fail
    refine HG.out.mono ?_
    rintro e w1 ⟨rfl, b1⟩
    go_wp2_with fail
    go_ret2
    exact RetN.no HN.out (btrans b0 b1)
end Go.Proofs.Ytphlpipbhaiijaa.forests
