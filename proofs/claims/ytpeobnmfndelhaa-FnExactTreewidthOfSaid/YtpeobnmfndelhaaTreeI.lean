/- The contracts of the program's widthAt and TreewidthOf. -/
import Derived.Handy
import Derived.Test.YtpeobnmfndelhaaPathM
import Derived.Test.YtpeobnmfndelhaaElim
import Derived.Test.YtpeobnmfndelhaaAround
import Derived.Deep.DeepCutAuto
import Derived.Deep.RegionHeld3
import Derived.Deep.QuietTactic
namespace Go.Proofs.Ytpeobnmfndelhaa.costs
open Go.RowKit P2 words edges ints good adjs fns sets rets covs reach bags bitsI fronts
set_option linter.unusedVariables false

noncomputable def costW (l : List Ed) (n g x : Nat) : Int := ((nw (laterB n l (bitB g) x) n).length : Int)
theorem costW_le (l : List Ed) (n : Nat) (hn : n ≤ 8) (g x : Nat) : costW l n g x ≤ 100 := by
  unfold costW
  have := nw_len (laterB n l (bitB g) x) n
  omega
theorem costW_pos (l : List Ed) (n g x : Nat) : 0 ≤ costW l n g x := by unfold costW; omega
noncomputable def twV (s : Int) (l : List Ed) : Int := leastV s.toNat (costW l s.toNat) (-1)
theorem LcUp.low {n : Nat} {cost : Nat → Nat → Int} {C : Nat → Int} (hn : n ≤ 8) (h : LcUp n cost (-1) 0 C) (hc : ∀ g x, 0 ≤ cost g x) : -1 ≤ C 0 := by
  by_cases e : 2 ^ n - 1 = 0
  · have := h.1; rw [e] at this; omega
  · obtain ⟨⟨x, _, _, hC⟩, _⟩ := h.2.1 0 (by omega) (by omega)
    have := hc 0 x
    omega
theorem tw_lc {n : Nat} {l : List Ed} {C : Nat → Int} (hn : n ≤ 8) (h : LcUp n (costW l n) (-1) 0 C) : twV (n : Int) l = C 0 := by
  have e : twV (n : Int) l = leastV n (costW l n) (-1) := rfl
  rw [e]
  exact Least.is (lc_least hn h.1 (fun c hc => h.2.1 c (by omega) hc) (h.low hn (costW_pos l n)))
theorem own_litT {w : World} {B N c : Nat} {A : Option Addr} {cs : List Value} (h : w.ownsRow B 3 1 (.slice A N c) N cs) (hN : 0 < N) : ∃ g, A = some ⟨g, 0, none⟩ := by
  rcases h.2 with ⟨_, h1⟩ | ⟨g, cap, cur, h1, _⟩
  · omega
  · cases h1; exact ⟨g, rfl⟩
set_option maxHeartbeats 1000000 in
set_option maxRecDepth 100000 in
theorem widthClo_any (n g x b : Nat) (v : Value) (l : List Ed) (w : World) (hc : w.cell? ⟨b, 0, none⟩ = some v) (h : Nums w v (clos l n)) (hg : P2.Good (n : Int) l) (hn : n ≤ 8) (hx : x < n) (hgn : g < 2 ^ n) (hb : g.testBit x = false) :
    Calls Try.prog 140 #[.int .u64 (g : Int), .int .i64 (x : Int), .pointer (some ⟨b, 0, none⟩)] w fun e w' => e = .returned (.int .i64 (costW l n g x)) ∧ ∃ m, w' = w.drewN m := by
  have HB := Lib.hid (bagOf_any n x (bitB g) v l w h hg hn hx hb)
  rw [num_code hgn] at HB
  have hbl := bag_len (l := l) (G := bitB g) hx
  have hln := nw_len (laterB n l (bitB g) x) n
  have HCT := Lib.hid (fun (W : World) => count_any (numOf (bagB n l (bitB g) x) n) W (numOf_lt _ hn))
  rw [ones_num _ hn, hbl] at HCT
  have HV : Hid (costW l n g x = ((nw (laterB n l (bitB g) x) n).length : Int)) := rfl
  rw [HV.out]
  clear h hg hbl
  generalize numOf (bagB n l (bitB g) x) n = a at *
  generalize (nw (laterB n l (bitB g) x) n).length = rr at *
  have hr1 : ((rr + 1 : Nat) : Int) - 1 = (rr : Int) := by omega
  go_enter Try.func140, Try.ntmps140
  go_wp2_with fail
  refine HB.out.mono ?_
  rintro e w' ⟨rfl, m, rfl⟩
  go_wp2_with fail
  refine (HCT.out _).mono ?_
  rintro e w' ⟨rfl, rfl⟩
  go_wp2_with fail
  go_ret
  exact ⟨ret_int (by first | omega | simp), m, rfl⟩
theorem widthAt_any (n : Nat) (v : Value) (l : List Ed) (w : World) (h : Edges w v l) (hl : l.length ≤ 1048576) (hg : P2.Good (n : Int) l) (hn : n ≤ 8) :
    Calls Try.prog 93 #[.agg #[.int .i64 (n : Int), v]] w fun e w' => ∃ b A c, e = .returned (.func (.func 140) #[] #[.pointer (some ⟨b, 0, none⟩)]) ∧ w'.cell? ⟨b, 0, none⟩ = some (.slice A (clos l n).length c) ∧ Nums w' (.slice A (clos l n).length c) (clos l n) ∧ Below w.heap.size w w' := by
  obtain ⟨A, c, rfl, -⟩ := h.form
  have hmf : ∀ (fn : Fn) (first cap : Array Value) (w : World), (Instr.makeFunc fn first cap).run Try.prog w = .ok (.func fn first cap) w := fun _ _ _ _ => rfl
  have b0 : Below w.heap.size w (w.alloc (.cells #[.int .i64 (n : Int), .slice A l.length c] 30)) := (Below.refl _ _).alloc (Nat.le_refl _) _
  obtain ⟨p0, p1, -, -⟩ := (Blk.new w 30 #[.int .i64 (n : Int), .slice A l.length c]).two
  have HC := Lib.hid (closedBits_any n (.slice A l.length c) l _ (h.below b0) hl hg hn)
  clear h hg
  go_enter Try.func93, Try.ntmps93
  go_wp2_with fail
  refine HC.out.mono ?_
  rintro e w2 ⟨A3, c3, rfl, i3, b3⟩
  have HE2 := Lib.hid (btrans b0 b3)
  have HI := Lib.hid i3
  clear i3 b3 HC p0 p1 b0
  generalize hm : (clos l n).length = m at *
  have HM := Lib.hid hm
  clear hm
  go_wp2_with fail
  go_ret
  have h9 := HI.out
  rw [← HM.out] at h9 ⊢
  refine ⟨w2.heap.size, A3, c3, rfl, (Blk.new w2 65 #[.slice A3 (clos l n).length c3]).cell 0, h9.below ((Below.refl _ _).alloc (Nat.le_refl _) _), HE2.out.alloc HE2.out.size _⟩
set_option maxHeartbeats 2000000 in
set_option maxRecDepth 100000 in
theorem implTree_any (s : Int) (v : Value) (l : List Ed) (w : World) (h : Edges w v l) (hl : l.length ≤ 1048576) :
    Calls Try.prog 39 #[.agg #[.int .i64 s, v]] w (RetN w (P2.Good s l) (twV s l)) := by
  obtain ⟨A, c, rfl, -⟩ := h.form
  have H := Lib.hid h
  have b0 : Below w.heap.size w (w.alloc (.cells #[.int .i64 s, .slice A l.length c] 30)) := (Below.refl _ _).alloc (Nat.le_refl _) _
  have g0 := Blk.new w 30 #[.int .i64 s, .slice A l.length c]
  have HG := Lib.hid (implIsGraph_any s _ l _ (h.below b0) hl)
  clear h
  by_cases hgd : P2.Good s l
  · rw [goodB_yes hgd] at HG
    have h0 := hgd.1
    have h8 := hgd.2.1
    obtain ⟨n, rfl⟩ : ∃ n : Nat, s = (n : Int) := ⟨s.toNat, by omega⟩
    have hn : n ≤ 8 := by omega
    have HGD := Lib.hid hgd
    have HLC := Lib.hid (fun (W : World) (b : Nat) (A : Option Addr) (c : Nat) (hc : W.cell? ⟨b, 0, none⟩ = some (.slice A (clos l n).length c)) (hm : Nums W (.slice A (clos l n).length c) (clos l n)) =>
      leastCosts_any n b (-1) (costW l n) 140 W hn (by decide) (costW_le l n hn) (fun _ _ => by kernel_rfl) (fun W' g x hW hg hx hb => widthClo_any n g x b _ l W' (nearv.cell_keep hc hW) (hm.below hW) hgd hn hx hg hb))
    clear hgd
    go_enter Try.func39, Try.ntmps39
    go_wp2_with fail
    refine HG.out.mono ?_
    rintro e w1 ⟨rfl, b1⟩
    have e1 := btrans b0 b1
    have g1 := g0.below b1 g0.lt
    have HFA := Lib.hid (widthAt_any n (.slice A l.length c) l w1.drew (H.out.below e1.drew) hl HGD.out hn)
    have HE1 := Lib.hid e1
    have HG1 := Lib.hid g1
    clear HG b0 b1 g0 e1
    obtain ⟨p0, p1, -, -⟩ := g1.two
    clear g1
    go_wp2_with fail
    refine wp_region_held_drew (S := (fun w' : World => w'.cell? ⟨w.heap.size, 0, none⟩ = some (.int .i64 (n : Int)) ∧ w'.cell? ⟨w.heap.size, 1, none⟩ = some (.slice A l.length c))) (by kernel_rfl) (by (try dsimp only); simp [*]) (fun hHeld => ?_)
    change wpAnyH _ _ _ _ _ _ #[false, false, false, false, false, false, false, false, false] _ _
    refine wpAnyH_take (i := 0) (oi := ⟨some 7, _, _, _, _, _⟩) (v := ?_) rfl (by kernel_rfl) (by kernel_rfl) (by kernel_rfl) (fun _ _ _ h => h) (Or.inl ⟨by rfl, ?_⟩) (by assumption) ?_
    rotate_left
    · (intro w hSw; (try dsimp only at hSw); go_simp; (try (with_reducible rfl)))
    try simp only [Act.put, List.setIfInBounds_toArray, List.set_cons_zero, List.set_cons_succ]
    refine wpAnyH_take (i := 1) (oi := ⟨some 8, _, _, _, _, _⟩) (v := ?_) rfl (by kernel_rfl) (by kernel_rfl) (by kernel_rfl) (fun _ _ _ h => h) (Or.inl ⟨by rfl, ?_⟩) (by assumption) ?_
    rotate_left
    · (intro w hSw; (try dsimp only at hSw); go_simp; (try (with_reducible rfl)))
    try simp only [Act.put, List.setIfInBounds_toArray, List.set_cons_zero, List.set_cons_succ]
    refine wpAnyH_take (i := 2) (oi := ⟨some 9, _, _, _, _, _⟩) (v := ?_) rfl (by kernel_rfl) (by kernel_rfl) (by kernel_rfl) (fun _ _ _ h => h) (Or.inl ⟨by rfl, ?_⟩) (by assumption) ?_
    rotate_left
    · (intro w hSw; (try dsimp only at hSw); go_simp; (try (with_reducible rfl)))
    try simp only [Act.put, List.setIfInBounds_toArray, List.set_cons_zero, List.set_cons_succ]
    refine wpAnyH_ready (rs := [3]) (by kernel_rfl) (by simp) ?_
    refine AllReadyH.cons (o := ⟨some 10, _, _, _, _, _⟩) rfl (fun K hK => ?_) AllReadyH.nil
    go_simp
    refine HFA.out.mono ?_; rintro e w2 ⟨bf, Af, cf, rfl, hcf, hnf, b2⟩; have d2 : Below w1.heap.size w1 w2 := btrans (Below.refl _ _).drew b2; have HE2 := Lib.hid (btrans HE1.out d2); have HG2 := Lib.hid (HG1.out.below d2 HG1.out.lt); obtain ⟨k0, k1, -, -⟩ := HG2.out.two; have HL2 := Lib.hid (HLC.out w2 bf Af cf hcf hnf); clear hcf hnf b2 d2
    go_wp2_with fail
    refine hK.out _ _ (by (try dsimp only); simp [*]) (fun hHeld => ?_)
    clear hK K
    try simp only [List.setIfInBounds_toArray, List.set_cons_zero, List.set_cons_succ]
    refine wpAnyH_ready (rs := [4]) (by kernel_rfl) (by simp) ?_
    refine AllReadyH.cons (o := ⟨some 11, _, _, _, _, _⟩) rfl (fun K hK => ?_) AllReadyH.nil
    go_simp
    refine HL2.out.mono ?_; rintro e w3 ⟨A9, c9, C, rfl, o9, hlc, b9⟩; have HPV := Lib.hid (tw_lc hn hlc); obtain ⟨m0, m1, -, -⟩ := (HG2.out.below b9 HG2.out.lt).two; have HE3 := Lib.hid (btrans HE2.out b9); obtain ⟨g9, rfl⟩ := own_litT o9 (Nat.two_pow_pos n); have f9 := o9.cellAt 0 (by have := Nat.two_pow_pos n; omega); rw [cellsI_at (rowF_at (Nat.two_pow_pos n))] at f9; have hN0 := Nat.two_pow_pos n; clear HL2 HLC hlc o9 b9; generalize 2 ^ n = N at *; have hN1 : (0 : Int) < (N : Int) := by omega
    go_wp2_with fail
    refine hK.out _ _ (by (try dsimp only); simp [*]) (fun hHeld => ?_)
    clear hK K
    try simp only [List.setIfInBounds_toArray, List.set_cons_zero, List.set_cons_succ]
    refine wpAnyH_take (i := 5) (oi := ⟨some 12, _, _, _, _, _⟩) (v := ?_) rfl (by kernel_rfl) (by kernel_rfl) (by kernel_rfl) (fun _ _ _ h => h) (Or.inl ⟨by rfl, ?_⟩) (by assumption) ?_
    rotate_left
    · (intro w hSw; (try dsimp only at hSw); go_simp; (try (with_reducible rfl)))
    try simp only [Act.put, List.setIfInBounds_toArray, List.set_cons_zero, List.set_cons_succ]
    refine wpAnyH_ready (rs := [6]) (by kernel_rfl) (by simp) ?_
    refine AllReadyH.cons rfl (fun K hK => ?_) AllReadyH.nil
    go_simp
    refine hK.out _ _ (⟨m0, m1⟩) (fun hHeld => ?_)
    clear hK K
    try simp only [List.setIfInBounds_toArray, List.set_cons_zero, List.set_cons_succ]
    refine wpAnyH_take (i := 7) (oi := ⟨some 2, _, _, _, _, _⟩) (v := ?_) rfl (by kernel_rfl) (by kernel_rfl) (by kernel_rfl) (fun _ _ _ h => h) (Or.inl ⟨by rfl, ?_⟩) (by assumption) ?_
    rotate_left
    · (intro w hSw; (try dsimp only at hSw); go_simp; (try (with_reducible rfl)))
    try simp only [Act.put, List.setIfInBounds_toArray, List.set_cons_zero, List.set_cons_succ]
    refine wpAnyH_take (i := 8) (oi := ⟨some 3, _, _, _, _, _⟩) (v := ?_) rfl (by kernel_rfl) (by kernel_rfl) (by kernel_rfl) (fun _ _ _ h => h) (Or.inl ⟨by rfl, ?_⟩) (by assumption) ?_
    rotate_left
    · (intro w hSw; (try dsimp only at hSw); go_simp; (try (with_reducible rfl)))
    try simp only [Act.put, List.setIfInBounds_toArray, List.set_cons_zero, List.set_cons_succ]
    refine wpAnyH_done (by kernel_rfl) ?_ _
    go_wp2_with fail
    go_ret2
    rw [← HPV.out]
    exact RetN.yes HGD.out HE3.out
  · rw [goodB_no hgd] at HG
    have HN := Lib.hid hgd
    clear hgd
    go_enter Try.func39, Try.ntmps39
    go_wp2_with fail
    refine HG.out.mono ?_
    rintro e w1 ⟨rfl, b1⟩
    go_wp2_with fail
    go_ret2
    exact RetN.no HN.out (btrans b0 b1)
end Go.Proofs.Ytpeobnmfndelhaa.costs
