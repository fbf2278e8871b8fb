/- Bandwidths of layouts: the contracts of the model's l7Place, l7Band and BandwidthOf. -/
import Derived.Handy
import Derived.Test.YtphlpipbhaiijaaBandM
import Derived.Test.YtphlpipbhaiijaaLaysS
import Derived.Deep.QuietTactic
namespace Go.Proofs.Ytphlpipbhaiijaa.lays
open Go.RowKit P2 words edges ints good adjs fns sets rets covs reach bags each degs bitsI func minmax
set_option linter.unusedVariables false

theorem l7Place_any (u : Value) (tl : List Int) (x : Int) (w : World) (hu : Ints w u tl) (hl : tl.length ≤ 1048576) (hx : x ∈ tl) :
    Calls Try.prog 107 #[u, .int .i64 x] w fun e w' => e = .returned (.int .i64 (plc tl x : Int)) ∧ w = w' := by
  obtain ⟨A2, c2, rfl, hc⟩ := hu.form
  have HC := Lib.hid hc
  have hpl : plc tl x < tl.length := List.findIdx_lt_length_of_exists ⟨x, hx, by simp⟩
  have HP := Lib.hid (plc_at hx)
  have HNO : Hid (∀ j y, j < plc tl x → tl[j]? = some y → ¬ y = x) := fun j y hj hy e => by
    have h_ := List.not_of_lt_findIdx hj
    obtain ⟨h1, h2⟩ := List.getElem?_eq_some_iff.1 hy
    rw [h2] at h_
    exact absurd e (of_decide_eq_false h_)
  generalize plc tl x = pl at *
  clear hu hc hx
  go_enter Try.func107, Try.ntmps107
  go_wp2_with fail
  go_loop [5] (fun i => ∃ k : Nat, k ≤ pl ∧ i = .int .i64 (k : Int)) (fun i => pl - (intOf i).toNat)
  case atStart => exact ⟨0, Nat.zero_le _, rfl⟩
  case round =>
    obtain ⟨k, hk, rfl⟩ := hrel
    have hlt' : (k : Int) < (tl.length : Int) := by omega
    obtain ⟨y, hy⟩ : ∃ y, tl[k]? = some y := ⟨_, List.getElem?_eq_getElem (by omega)⟩
    obtain ⟨g, o, rfl, c0⟩ := HC.out k y hy
    by_cases hlt : k < pl
    · have hne : (y == x) = false := by have := HNO.out k y hlt hy; simpa using this
      clear hy
      go_wp2_with fail
      go_round
      case rel => exact ⟨k + 1, by omega, by go_num⟩
      case measure => simp [intOf]; omega
    · obtain rfl : k = pl := by omega
      have h_ := HP.out
      rw [hy] at h_
      cases h_
      clear hy
      go_wp2_with fail
      go_ret
      exact ⟨rfl, rfl⟩
set_option maxHeartbeats 2000000 in
set_option maxRecDepth 100000 in
theorem l7Band_any (n : Nat) (v u : Value) (l : List Ed) (tl : List Int) (w : World) (h : Edges w v l) (hl : l.length ≤ 1048576) (hu : Ints w u tl) (hg : P2.Good (n : Int) l) (he : EachS n tl) :
    Calls Try.prog 52 #[.agg #[.int .i64 (n : Int), v], u] w fun e w' => e = .returned (.int .i64 (grL (l.map (dE tl)))) ∧ Below w.heap.size w w' := by
  obtain ⟨A, c, rfl, hc⟩ := h.form
  have hn : n ≤ 8 := by have := hg.2.1; omega
  have b0 : Below w.heap.size w (w.alloc (.cells #[.int .i64 (n : Int), .slice A l.length c] 29)) := (Below.refl _ _).alloc (Nat.le_refl _) _
  have g0 := Blk.new w 29 #[.int .i64 (n : Int), .slice A l.length c]
  have HC := Lib.hid hc
  have HU := Lib.hid hu
  have HGD := Lib.hid hg
  have HE := Lib.hid he
  have HB0 := Lib.hid b0
  have HG0 := Lib.hid g0
  clear h hu hc b0 g0 hg he
  go_enter Try.func52, Try.ntmps52
  go_wp2_with fail
  go_loopg [5, 6] l.length (fun g mv iv wr => ∃ k : Nat, k + g = l.length ∧ iv = .int .i64 (k : Int) ∧ mv = .int .i64 (bandE l tl k) ∧ Blk wr w.heap.size 29 #[.int .i64 (n : Int), .slice A l.length c] ∧ Below w.heap.size w wr)
  case atStart => exact ⟨0, by omega, rfl, rfl, HG0.out, HB0.out⟩
  case round =>
    clear HG0 HB0
    obtain ⟨k, hkg, rfl, rfl, hgb, hB⟩ := hrel
    obtain ⟨p0, p1, -, -⟩ := hgb.two
    cases gk with
    | zero =>
      obtain rfl : k = l.length := by omega
      have HT : Hid (bandE l tl l.length = grL (l.map (dE tl))) := by show _ = _; unfold bandE; rw [List.take_length]
      have HB := Lib.hid hB
      clear hgb hB
      go_wp2_with fail
      go_ret
      exact ⟨ret_int (by first | rfl | rw [HT.out]), HB.out⟩
    | succ g2 =>
      have hlt : k < l.length := by omega
      have hlt' : (k : Int) < (l.length : Int) := by omega
      obtain ⟨⟨a, b⟩, hx⟩ : ∃ x, l[k]? = some x := ⟨_, List.getElem?_eq_getElem hlt⟩
      obtain ⟨ga, oa, rfl, c0, c1⟩ := HC.out k _ hx
      have q0 := nearv.cell_keep c0 hB
      have q1 := nearv.cell_keep c1 hB
      have HK := Lib.hid (bandE_succ (tl := tl) hx)
      have hr := HGD.out.mem (List.mem_of_getElem? hx)
      simp only at hr
      have hma : a ∈ tl := by have := HE.out.2 a.toNat (by omega); rwa [show ((a.toNat : Nat) : Int) = a from by omega] at this
      have hmb : b ∈ tl := by have := HE.out.2 b.toNat (by omega); rwa [show ((b.toNat : Nat) : Int) = b from by omega] at this
      have hal : tl.length ≤ 8 := by rw [HE.out.1]; exact hn
      have hpa := plc_le tl a
      have hpb := plc_le tl b
      have HD : Hid (dE tl (a, b) = max ((plc tl a : Int) - (plc tl b : Int)) ((plc tl b : Int) - (plc tl a : Int))) := rfl
      have HUW := HU.out.below hB
      have HA := Lib.hid (fun (z : Int) (m : Nat) (hz : z ∈ tl) => l7Place_any u tl z (wr.drewN m) (show Ints _ _ _ from HUW) (by omega) hz)
      have HMA := Lib.hid hma
      have HMB := Lib.hid hmb
      have HG := Lib.hid hgb
      have HB := Lib.hid hB
      have HMO := Lib.hid (fun (x y : Int) (W : World) => l1Most_any x y W)
      simp only at q0 q1
      clear hx c0 c1 hgb hB HUW hma hmb hr
      go_wp2_with fail
      go_quiet (first | (go_at_call 107; exact quiet_left (HA.out _ _ HMA.out)) | (go_at_call 107; exact quiet_left (HA.out _ _ HMB.out)))
      have HB9 := Lib.hid (below_drewN HB.out nq)
      have HG9 : Hid (Blk (wr.drewN nq) w.heap.size 29 #[.int .i64 (n : Int), .slice (some ⟨ga, oa, none⟩) l.length c]) := HG.out
      clear HB HG HA
      generalize plc tl a = pa at *
      generalize plc tl b = pb at *
      have hw1 : IntKind.i64.wrap ((pa : Int) - (pb : Int)) = (pa : Int) - (pb : Int) := IntWalk.i64_in _ (by omega)
      have hw2 : IntKind.i64.wrap ((pb : Int) - (pa : Int)) = (pb : Int) - (pa : Int) := IntWalk.i64_in _ (by omega)
      go_wp2_with fail
      refine (HMO.out _ _ _).mono ?_
      rintro e w' ⟨rfl, rfl⟩
      go_wp2_with fail
      refine (HMO.out _ _ _).mono ?_
      rintro e w' ⟨rfl, rfl⟩
      go_wp2_with fail
      go_roundg g2
      case measure => omega
      case rel => exact ⟨k + 1, by omega, by go_num, by rw [HK.out, HD.out], HG9.out, HB9.out⟩
set_option maxHeartbeats 1000000 in
set_option maxRecDepth 100000 in
theorem specBandwidth_any (s : Int) (v u : Value) (l : List Ed) (tl : List Int) (w : World) (h : Edges w v l) (hl : l.length ≤ 1048576) (hu : Ints w u tl) (htl : tl.length ≤ 1048576) (hs1 : -9223372036854775808 ≤ s) (hs2 : s ≤ 9223372036854775807) :
    Calls Try.prog 16 #[.agg #[.int .i64 s, v], u] w (RetN w (ElimOk s l tl) (grL (l.map (dE tl)))) := by
  obtain ⟨A, c, rfl, -⟩ := h.form
  have H := Lib.hid h
  have HU := Lib.hid hu
  have b0 : Below w.heap.size w (w.alloc (.cells #[.int .i64 s, .slice A l.length c] 29)) := (Below.refl _ _).alloc (Nat.le_refl _) _
  have g0 := Blk.new w 29 #[.int .i64 s, .slice A l.length c]
  have HO := Lib.hid (l7Order_any s _ u l tl _ (h.below b0) hl (hu.below b0) htl hs1 hs2)
  clear h hu
  by_cases hok : ElimOk s l tl
  · rw [okG_yes hok] at HO
    have h0 := hok.1.1
    have h8 := hok.1.2.1
    obtain ⟨n, rfl⟩ : ∃ n : Nat, s = (n : Int) := ⟨s.toNat, by omega⟩
    have HOK := Lib.hid hok
    have hn : n ≤ 8 := by omega
    clear hok
    go_enter Try.func16, Try.ntmps16
    go_wp2_with fail
    refine HO.out.mono ?_
    rintro e w1 ⟨rfl, b1⟩
    have e1 := btrans b0 b1
    have g1 := g0.below b1 g0.lt
    obtain ⟨p0, p1, -, -⟩ := g1.two
    clear HO b0 b1 g0
    go_wp2_with fail
    refine (l7Band_any n (.slice A l.length c) u l tl w1 (H.out.below e1) hl (HU.out.below e1) HOK.out.1 (by have := HOK.out.2; rwa [Int.toNat_natCast] at this)).mono ?_
    rintro e w2 ⟨rfl, b2⟩
    go_wp2_with fail
    go_ret2
    exact RetN.yes HOK.out (btrans e1 b2)
  · rw [okG_no hok] at HO
    have HN := Lib.hid hok
    clear hok
    go_enter Try.func16, Try.ntmps16
    go_wp2_with fail
    refine HO.out.mono ?_
    rintro e w1 ⟨rfl, b1⟩
    go_wp2_with fail
    go_ret2
    exact RetN.no HN.out (btrans b0 b1)
end Go.Proofs.Ytphlpipbhaiijaa.lays
