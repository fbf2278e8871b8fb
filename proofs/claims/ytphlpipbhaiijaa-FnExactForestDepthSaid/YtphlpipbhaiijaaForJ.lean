/- Forests: the contracts of the program's IsForest and ForestDepth. -/
import Derived.Handy
import Derived.Test.YtphlpipbhaiijaaForI
import Derived.Deep.DeepCutAuto
namespace Go.Proofs.Ytphlpipbhaiijaa.forests
open Go.RowKit P2 words edges ints good adjs fns sets rets covs reach bags degs bitsI lays
set_option linter.unusedVariables false

set_option maxHeartbeats 1000000 in
set_option maxRecDepth 100000 in
theorem implIsForest_any (s : Int) (v u : Value) (l : List Ed) (tl : List Int) (w : World) (h : Edges w v l) (hl : l.length ≤ 1048576) (hu : Ints w u tl) (htl : tl.length ≤ 1048576) :
    Calls Try.prog 30 #[.agg #[.int .i64 s, v], u] w fun e w' => e = .returned (.tuple #[.bool (okG (ForOk s l tl)), .bool (goodB s l)]) ∧ Below w.heap.size w w' := by
  obtain ⟨A, c, rfl, -⟩ := h.form
  have b0 : Below w.heap.size w (w.alloc (.cells #[.int .i64 s, .slice A l.length c] 29)) := (Below.refl _ _).alloc (Nat.le_refl _) _
  have g0 := Blk.new w 29 #[.int .i64 s, .slice A l.length c]
  obtain ⟨p0, p1, -, -⟩ := g0.two
  have HA := Lib.hid (aboveIn_any s _ u l tl _ (h.below b0) hl (hu.below b0) htl)
  have HG := Lib.hid (fun (W : World) (hW : Below w.heap.size w W) => implIsGraph_any s _ l W (h.below hW) hl)
  have HG0 := Lib.hid g0
  have HB0 := Lib.hid b0
  clear h hu b0 g0
  go_enter Try.func30, Try.ntmps30
  go_wp2_with fail
  refine HA.out.mono ?_
  rintro e w2 ⟨hr, b2⟩
  have HB2 := Lib.hid (btrans HB0.out b2)
  have HGG := Lib.hid (HG.out w2 HB2.out)
  clear p0 p1
  obtain ⟨p0, p1, -, -⟩ := (HG0.out.below b2 HG0.out.lt).two
  clear b2
  rcases hr with ⟨hok, A5, c5, rfl, o5⟩ | ⟨hno, rfl⟩
  · have HV : Hid (okG (ForOk s l tl) = true) := okG_yes hok
    clear hok o5
    go_wp2_with fail
    refine HGG.out.mono ?_
    rintro e w4 ⟨rfl, b4⟩
    have HB4 := Lib.hid (btrans HB2.out b4)
    clear p0 p1
    go_wp2_with fail
    go_ret2
    rw [HV.out]
    exact ⟨rfl, HB4.out⟩
  · have HV : Hid (okG (ForOk s l tl) = false) := okG_no hno
    clear hno
    go_wp2_with fail
    refine HGG.out.mono ?_
    rintro e w4 ⟨rfl, b4⟩
    have HB4 := Lib.hid (btrans HB2.out b4)
    clear p0 p1
    go_wp2_with fail
    go_ret2
    rw [HV.out]
    exact ⟨rfl, HB4.out⟩
set_option maxHeartbeats 2000000 in
set_option maxRecDepth 100000 in
theorem implDepth_any (s : Int) (v u : Value) (l : List Ed) (tl : List Int) (w : World) (h : Edges w v l) (hl : l.length ≤ 1048576) (hu : Ints w u tl) (htl : tl.length ≤ 1048576) :
    Calls Try.prog 32 #[.agg #[.int .i64 s, v], u] w (RetN w (ForOk s l tl) (grL (depL s.toNat tl))) := by
  obtain ⟨A, c, rfl, -⟩ := h.form
  have b0 : Below w.heap.size w (w.alloc (.cells #[.int .i64 s, .slice A l.length c] 29)) := (Below.refl _ _).alloc (Nat.le_refl _) _
  have g0 := Blk.new w 29 #[.int .i64 s, .slice A l.length c]
  obtain ⟨p0, p1, -, -⟩ := g0.two
  have HA := Lib.hid (aboveIn_any s _ u l tl _ (h.below b0) hl (hu.below b0) htl)
  have HB0 := Lib.hid b0
  clear h hu b0 g0
  go_enter Try.func32, Try.ntmps32
  go_wp2_with fail
  refine HA.out.mono ?_
  rintro e w2 ⟨hr, b2⟩
  have HB2 := Lib.hid (btrans HB0.out b2)
  clear p0 p1 b2
  rcases hr with ⟨hok, A5, c5, rfl, o5⟩ | ⟨hno, rfl⟩
  · have h0 := hok.1.1
    have h8 := hok.1.2.1
    obtain ⟨n, rfl⟩ : ∃ n : Nat, s = (n : Int) := ⟨s.toNat, by omega⟩
    rw [Int.toNat_natCast] at o5 ⊢
    have hn : n ≤ 8 := by omega
    have HOK := Lib.hid hok
    have hlen : (abvL tl n).length = n := uF_len _ _
    have hN : Nums w2 (.slice A5 n c5) (abvL tl n) := by
      show Reads _ _ _ _ _
      rw [hlen]; exact Reads.of_own o5
    obtain ⟨_, _, hf, hcc⟩ := hN.form
    rw [hlen] at hf
    cases hf
    have HCC := Lib.hid hcc
    have HD0 : Hid (grL ((List.range 0).map (depF n tl)) = 0) := rfl
    clear hok o5 hlen hN hcc
    go_wp2_with fail
    go_loop [8, 19] (fun s i => ∃ k : Nat, k ≤ n ∧ i = .int .i64 (k : Int) ∧ s = .int .i64 (grL ((List.range k).map (depF n tl)))) (fun _ i => n - (intOf i).toNat)
    case atStart => exact ⟨0, Nat.zero_le _, rfl, rfl⟩
    case round =>
      obtain ⟨k, hk, rfl, rfl⟩ := hrel
      by_cases hlt : k < n
      · have hlt' : (k : Int) < (n : Int) := by omega
        obtain ⟨g6, o6, rfl, c6⟩ := HCC.out k _ (uF_at hlt)
        have HS : Hid (grL ((List.range (k + 1)).map (depF n tl)) = max (grL ((List.range k).map (depF n tl))) (depF n tl k)) := by show _ = _; rw [List.range_succ, List.map_append]; exact grL_snoc _ _
        have HCT := Lib.hid (fun (W : World) => count_any (numOf (abvB tl k) n) W (numOf_lt _ hn))
        rw [ones_num _ hn] at HCT
        have HDF : Hid (depF n tl k = (((nw (abvB tl k) n).length : Nat) : Int) + 1) := rfl
        have hle := nw_len (abvB tl k) n
        rw [HDF.out] at HS
        generalize numOf (abvB tl k) n = q at *
        generalize (nw (abvB tl k) n).length = a at *
        generalize grL ((List.range k).map (depF n tl)) = b at *
        have hw1 : IntKind.i64.wrap ((a : Int) + 1) = (a : Int) + 1 := IntWalk.i64_in _ (by omega)
        go_wp2_with fail
        refine (HCT.out _).mono ?_
        rintro e w' ⟨rfl, rfl⟩
        go_wp2_with fail
        all_goals (go_round
                   case rel => exact ⟨k + 1, by omega, by go_num, by rw [HS.out]; first | rfl | (congr 1; omega) | (congr 1; split <;> omega)⟩
                   case measure => simp [intOf]; omega)
      · obtain rfl : k = n := by omega
        go_wp2_with fail
        go_ret2
        exact RetN.yes HOK.out HB2.out
  · have HN := Lib.hid hno
    clear hno
    go_wp2_with fail
    go_loop [8, 19] (fun s i => i = .int .i64 0 ∧ s = .int .i64 0) (fun _ i => 0)
    case atStart => exact ⟨rfl, rfl⟩
    case round =>
      obtain ⟨rfl, rfl⟩ := hrel
      go_wp2_with fail
      go_ret2
      exact RetN.no HN.out HB2.out
end Go.Proofs.Ytphlpipbhaiijaa.forests
