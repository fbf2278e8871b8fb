/- The contracts of the program's isRetractionOf and IsRetraction, and of the model's l3Retracts and IsRetraction. -/
import Derived.Handy
import Derived.Test.YtbdappkhkngdlaaRetr
import Derived.Deep.RegionHeld3
namespace Go.Proofs.Ytbdappkhkngdlaa.retr
open Go.RowKit P2 words edges ints good adjs fns sets rets covs bitsI func cors
set_option linter.unusedVariables false

set_option maxHeartbeats 2000000 in
set_option maxRecDepth 100000 in
theorem isRetractionOf_any (n : Nat) (v u : Value) (l : List Ed) (tl : List Int) (w : World) (h : Edges w v l) (hl : l.length ≤ 1048576) (hu : Ints w u tl) (htl : tl.length ≤ 1048576) (hg : P2.Good n l) (hn8 : n ≤ 8) :
    Calls Try.prog 70 #[.agg #[.int .i64 (n : Int), v], u] w fun e w' => e = .returned (.bool (okG (RetrP n l tl))) ∧ Below w.heap.size w w' := by
  obtain ⟨A, c, rfl, -⟩ := h.form
  obtain ⟨A2, c2, rfl, -⟩ := hu.form
  have H := Lib.hid h
  have HU := Lib.hid hu
  have hmf : ∀ (fn : Fn) (first cap : Array Value) (w : World), (Instr.makeFunc fn first cap).run Try.prog w = .ok (.func fn first cap) w := fun _ _ _ _ => rfl
  have b0 : Below w.heap.size w ((w.alloc (.cells #[.int .i64 (n : Int), .slice A l.length c] 29)).alloc (.cells #[.slice A2 tl.length c2] 25)) := ((Below.refl _ _).alloc (Nat.le_refl _) _).alloc (by simp) _
  have g0 := (Blk.new w 29 #[.int .i64 (n : Int), .slice A l.length c]).alloc (.cells #[.slice A2 tl.length c2] 25)
  have x0 := Blk.new (w.alloc (.cells #[.int .i64 (n : Int), .slice A l.length c] 29)) 25 #[.slice A2 tl.length c2]
  rw [World.size_alloc] at x0
  have HN := Lib.hid (hasNodes_any (n : Int) (.slice A l.length c) (.slice A2 tl.length c2) l tl _ (h.below b0) hl (hu.below b0) htl)
  have HGD := Lib.hid hg
  clear h hu
  by_cases hlen : tl.length = n
  · by_cases hns : ∀ x ∈ tl, 0 ≤ x ∧ x < (n : Int)
    · rw [nodesB_yes hg hns] at HN
      have HNS := Lib.hid hns
      rw [retr_eq hg hlen hns]
      have hlt8 : tl.length ≤ 8 := by omega
      have dl : ((tl.length : Int) != (n : Int)) = false := by simp; omega
      have dl' : (tl.length != n) = false := by simp; omega
      have HL := Lib.hid hlen
      clear hns hg hlen
      go_enter Try.func70, Try.ntmps70
      obtain ⟨p0, p1, -, -⟩ := g0.two
      obtain ⟨m0, -⟩ := x0.one
      go_wp2_with fail
      refine HN.out.mono ?_
      rintro e w1 ⟨rfl, b1⟩
      have e1 := btrans b0 b1
      have g1 := g0.below b1 g0.lt
      have x1 := x0.below b1 x0.lt
      clear p0 p1 m0 HN g0 x0 b1 b0
      obtain ⟨p0, p1, -, -⟩ := g1.two
      go_wp2_with fail
      refine (closedBits_any n _ l w1 (H.out.below e1) hl HGD.out hn8).mono ?_
      rintro e w2 ⟨A3, c3, rfl, r3, b2⟩
      have e2 := btrans e1 b2
      have g2 := g1.below b2 g1.lt
      have x2 := x1.below b2 x1.lt
      clear p0 p1 g1 x1 b2
      have b3 : Below w2.heap.size w2 (w2.alloc (.cells #[.slice A3 (clos l n).length c3] 67)) := (Below.refl _ _).alloc (Nat.le_refl _) _
      have c4 := Blk.new w2 67 #[.slice A3 (clos l n).length c3]
      have e3 := btrans e2 b3
      have g3 := g2.below b3 g2.lt
      have x3 := x2.below b3 x2.lt
      have hsz2 := x2.lt
      have r4 := r3.below b3
      have F1 := Lib.hid (fun (W : World) (hb : Below w.heap.size w W) (hx : Blk W (w.heap.size + 1) 25 #[.slice A2 tl.length c2]) =>
        ({ enter := fun _ _ => by kernel_rfl, call := fun W' hb' x hx' => by
            have hh := HNS.out x hx'
            obtain ⟨m, rfl⟩ : ∃ m : Nat, x = (m : Int) := ⟨x.toNat, by omega⟩
            exact (retrClo1_any m (w.heap.size + 1) A2 c2 tl W' ((hx.below hb' hx.lt).cell 0) (HU.out.below (btrans hb hb')) (by have := HL.out; omega)).mono fun _ _ ⟨h1, h2⟩ => ⟨h1, h2 ▸ Below.refl _ _⟩ } : FnI W 98 #[.pointer (some ⟨w.heap.size + 1, 0, none⟩)] tl (movedB tl)))
      have F2 := Lib.hid (fun (W : World) (hb : Below w.heap.size w W) (hx : Blk W (w.heap.size + 1) 25 #[.slice A2 tl.length c2]) (hc : Blk W w2.heap.size 67 #[.slice A3 (clos l n).length c3]) (hr : Nums W (.slice A3 (clos l n).length c3) (clos l n)) =>
        ({ enter := fun _ _ => by kernel_rfl, call := fun W' hb' x hx' => by
            have hh := HGD.out.mem hx'
            obtain ⟨x1, x2⟩ := x
            simp only at hh
            obtain ⟨p, rfl⟩ : ∃ m : Nat, x1 = (m : Int) := ⟨x1.toNat, by omega⟩
            obtain ⟨q, rfl⟩ : ∃ m : Nat, x2 = (m : Int) := ⟨x2.toNat, by omega⟩
            exact retrClo2_any p q n w2.heap.size (w.heap.size + 1) A2 A3 c2 c3 l tl W' ((hx.below hb' hx.lt).cell 0) (HU.out.below (btrans hb hb')) ((hc.below hb' hc.lt).cell 0) (hr.below hb') HL.out HNS.out HGD.out (by omega) (by omega) hn8 } : FnP W 100 #[.pointer (some ⟨w2.heap.size, 0, none⟩), .pointer (some ⟨w.heap.size + 1, 0, none⟩)] l (tornB l tl)))
      obtain ⟨p0, p1, -, -⟩ := g3.two
      obtain ⟨m0, -⟩ := x3.one
      go_wp2_with fail
      generalize w2.alloc (.cells #[.slice A3 (clos l n).length c3] 67) = w3 at *
      refine (containsFuncI_any _ tl 98 _ _ w3 (HU.out.below e3) htl (F1.out w3 e3 x3)).mono ?_
      rintro e w4 ⟨rfl, b4⟩
      have e4 := btrans e3 b4
      have g4 := g3.below b4 g3.lt
      have x4 := x3.below b4 x3.lt
      have c5 := c4.below b4 c4.lt
      have r5 := r4.below b4
      clear p0 p1 m0 g3 x3 c4 r4 b4
      obtain ⟨p0, p1, -, -⟩ := g4.two
      go_wp2_with fail
      refine (containsFuncP_any _ l 100 _ _ w4 (H.out.below e4) hl (F2.out w4 e4 x4 c5 r5)).mono ?_
      rintro e w5 ⟨rfl, b5⟩
      have e5 := btrans e4 b5
      generalize hq1 : tl.any (movedB tl) = q1
      generalize hq2 : l.any (tornB l tl) = q2
      have HQ1 := Lib.hid hq1
      have HQ2 := Lib.hid hq2
      clear hq1 hq2
      clear F1 F2
      cases q1
      all_goals
        go_wp2_with fail
        go_ret
        exact ⟨ret_bool (by rw [HQ1.out, HQ2.out]; cases q2 <;> rfl), e5⟩
    · rw [nodesB_no (fun hh => hns hh.2)] at HN
      have HNO : Hid (¬ RetrP n l tl) := fun hh => hns hh.2.1
      have dl : ((tl.length : Int) != (n : Int)) = false := by simp; omega
      have dl' : (tl.length != n) = false := by simp; omega
      clear hns hg hlen
      go_enter Try.func70, Try.ntmps70
      obtain ⟨p0, p1, -, -⟩ := g0.two
      obtain ⟨m0, -⟩ := x0.one
      go_wp2_with fail
      refine HN.out.mono ?_
      rintro e w1 ⟨rfl, b1⟩
      have e1 := btrans b0 b1
      go_wp2_with fail
      go_ret
      exact ⟨ret_bool (okG_no HNO.out).symm, e1⟩
  · have HNO : Hid (¬ RetrP n l tl) := fun hh => hlen hh.1
    have dl : ((tl.length : Int) != (n : Int)) = true := by simp; omega
    have dl' : (tl.length != n) = true := by simp; omega
    clear hg hlen HN
    go_enter Try.func70, Try.ntmps70
    obtain ⟨p0, p1, -, -⟩ := g0.two
    obtain ⟨m0, -⟩ := x0.one
    go_wp2_with fail
    go_ret
    exact ⟨ret_bool (okG_no HNO.out).symm, b0⟩

/-- what IsRetraction returns -/
noncomputable def retrV (s : Int) (l : List Ed) (tl : List Int) : Bool := goodB s l && okG (RetrP s.toNat l tl)
set_option maxHeartbeats 1000000 in
theorem implIsRetraction_any (s : Int) (v u : Value) (l : List Ed) (tl : List Int) (w : World) (h : Edges w v l) (hl : l.length ≤ 1048576) (hu : Ints w u tl) (htl : tl.length ≤ 1048576) :
    Calls Try.prog 29 #[.agg #[.int .i64 s, v], u] w fun e w' => e = .returned (.tuple #[.bool (retrV s l tl), .bool (goodB s l)]) ∧ Below w.heap.size w w' := by
  obtain ⟨A, c, rfl, -⟩ := h.form
  obtain ⟨A2, c2, rfl, -⟩ := hu.form
  have H := Lib.hid h
  have HU := Lib.hid hu
  have b0 : Below w.heap.size w (w.alloc (.cells #[.int .i64 s, .slice A l.length c] 29)) := (Below.refl _ _).alloc (Nat.le_refl _) _
  have g0 := Blk.new w 29 #[.int .i64 s, .slice A l.length c]
  have HG := Lib.hid (implIsGraph_any s _ l _ (h.below b0) hl)
  clear h hu
  by_cases hg : P2.Good s l
  · rw [goodB_yes hg] at HG
    obtain ⟨n, rfl⟩ : ∃ n : Nat, s = (n : Int) := ⟨s.toNat, by have := hg.1; omega⟩
    have hn : n ≤ 8 := by have := hg.2.1; omega
    have HV : Hid (retrV (n : Int) l tl = okG (RetrP n l tl)) := by show _ = _; unfold retrV; rw [goodB_yes hg]; rfl
    have HGB := Lib.hid (goodB_yes hg)
    have HGD := Lib.hid hg
    clear hg
    go_enter Try.func29, Try.ntmps29
    go_wp2_with fail
    refine HG.out.mono ?_
    rintro e w1 ⟨rfl, b1⟩
    have e_w1 := btrans b0 b1
    have g1 := g0.below b1 g0.lt
    clear HG b0 b1 g0
    obtain ⟨p0, p1, -, -⟩ := g1.two
    go_wp2_with fail
    refine (isRetractionOf_any n _ _ l tl w1 (H.out.below e_w1) hl (HU.out.below e_w1) htl HGD.out hn).mono ?_
    rintro e w2 ⟨rfl, b2⟩
    go_wp2_with fail
    go_ret2
    exact ⟨retBB HV.out.symm HGB.out.symm, btrans e_w1 b2⟩
  · rw [goodB_no hg] at HG
    have HV : Hid (retrV s l tl = false) := by show _ = _; unfold retrV; rw [goodB_no hg]; rfl
    have HGB := Lib.hid (goodB_no hg)
    clear hg
    go_enter Try.func29, Try.ntmps29
    go_wp2_with fail
    refine HG.out.mono ?_
    rintro e w1 ⟨rfl, b1⟩
    have e_w1 := btrans b0 b1
    go_wp2_with fail
    go_ret2
    exact ⟨retBB HV.out.symm HGB.out.symm, e_w1⟩
end Go.Proofs.Ytbdappkhkngdlaa.retr
