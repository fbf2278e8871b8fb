/- Rankings: mathematics, and the contracts of the program's isRankingOf and IsRanking. -/
import Derived.Handy
import Derived.Test.YtphlpipbhaiijaaClosed
import Derived.Test.YtphlpipbhaiijaaAround
import Derived.Test.YtphlpipbhaiijaaDistF
import Derived.Test.YtphlpipbhaiijaaLayI
import Derived.Deep.DeepCutAuto
import Derived.Deep.QuietTactic
import Derived.Deep.RegionHeld3
namespace Go.Proofs.Ytphlpipbhaiijaa.ranks
open Go.RowKit P2 words edges ints good adjs fns sets rets covs reach bags bitsI distf
set_option linter.unusedVariables false

/-- the nodes with numbers up to r, and with just r -/
def lowB (tl : List Int) (r : Int) (y : Nat) : Bool := decide (fn tl y ≤ r)
def eqB (tl : List Int) (r : Int) (y : Nat) : Bool := fn tl y == r
def RkAt (n : Nat) (l : List Ed) (tl : List Int) (x : Nat) : Prop := 1 ≤ fn tl x ∧ ∀ y : Nat, y < n → y ≠ x → Rch n (J2 l) (lowB tl (fn tl x)) x y → fn tl y ≠ fn tl x
def RkS (n : Nat) (l : List Ed) (tl : List Int) : Prop := tl.length = n ∧ ∀ x : Nat, x < n → RkAt n l tl x
def RkOk (s : Int) (l : List Ed) (tl : List Int) : Prop := P2.Good s l ∧ RkS s.toNat l tl
noncomputable def rkN (n : Nat) (l : List Ed) (tl : List Int) (x : Nat) : Nat := numOf (fun y => reachB n (J2 l) (lowB tl (fn tl x)) x y && eqB tl (fn tl x) y) n
theorem rkN_iff {n : Nat} {l : List Ed} {tl : List Int} {x : Nat} (hx : x < n) : rkN n l tl x = 2 ^ x ↔ ∀ y : Nat, y < n → y ≠ x → Rch n (J2 l) (lowB tl (fn tl x)) x y → fn tl y ≠ fn tl x := by
  unfold rkN
  constructor
  · intro h y hy hne hr e
    have h1 : (numOf (fun y => reachB n (J2 l) (lowB tl (fn tl x)) x y && eqB tl (fn tl x) y) n).testBit y = true := by
      rw [numOf_bit, decide_eq_true hy, Bool.true_and, reachB_iff.2 hr, Bool.true_and]
      unfold eqB
      rw [e]; simp
    rw [h, Nat.testBit_two_pow] at h1
    exact hne (of_decide_eq_true h1).symm
  · intro h
    apply Nat.eq_of_testBit_eq
    intro i
    rw [numOf_bit, Nat.testBit_two_pow]
    by_cases e : x = i
    · subst e
      rw [decide_eq_true hx, reachB_iff.2 .base]
      unfold eqB
      simp
    · rw [decide_eq_false e]
      by_cases hi : i < n
      · cases hr : reachB n (J2 l) (lowB tl (fn tl x)) x i with
        | false => simp
        | true =>
          have := h i hi (fun e2 => e e2.symm) (reachB_iff.1 hr)
          unfold eqB
          simp [this]
      · simp [hi]
theorem code_nw (p : Nat → Bool) (n : Nat) : codeL (nw p n) = numOf p n := by
  apply Nat.eq_of_testBit_eq
  intro i
  rw [code_bit (fun x hx => by obtain ⟨j, _, _, rfl⟩ := mem_nw.1 hx; omega), numOf_bit]
  rw [Bool.eq_iff_iff, decide_eq_true_iff, mem_nw, Bool.and_eq_true, decide_eq_true_iff]
  constructor
  · rintro ⟨j, h1, h2, h3⟩
    have : i = j := by omega
    subst this
    exact ⟨h1, h2⟩
  · rintro ⟨h1, h2⟩; exact ⟨i, h1, h2, rfl⟩
theorem rkClo1_any (y : Nat) (r : Int) (bd br : Nat) (v : Value) (D : List Int) (w : World) (h1 : w.cell? ⟨bd, 0, none⟩ = some v) (hv : Ints w v D) (h2 : w.cell? ⟨br, 0, none⟩ = some (.int .i64 r)) (hy : y < D.length) :
    Calls Try.prog 119 #[.int .i64 (y : Int), .pointer (some ⟨bd, 0, none⟩), .pointer (some ⟨br, 0, none⟩)] w fun e w' => e = .returned (.bool (lowB D r y)) ∧ Below w.heap.size w w' := by
  obtain ⟨A, c, rfl, hc⟩ := hv.form
  obtain ⟨d, hd⟩ : ∃ d, D[y]? = some d := ⟨_, List.getElem?_eq_getElem hy⟩
  obtain ⟨g, o, rfl, t0⟩ := hc y d hd
  unfold lowB
  rw [fn_at hd]
  have hy' : (y : Int) < (D.length : Int) := by omega
  have HB : Hid (Below w.heap.size w w) := Below.refl _ _
  clear hc hd hv
  go_enter Try.func119, Try.ntmps119
  go_wp2_with fail
  go_quiet (fail)
  go_wp2_with fail
  go_ret
  exact ⟨rfl, below_drewN HB.out _⟩
theorem rkClo2_any (y : Nat) (r : Int) (bd br : Nat) (v : Value) (D : List Int) (w : World) (h1 : w.cell? ⟨bd, 0, none⟩ = some v) (hv : Ints w v D) (h2 : w.cell? ⟨br, 0, none⟩ = some (.int .i64 r)) (hy : y < D.length) :
    Calls Try.prog 120 #[.int .i64 (y : Int), .pointer (some ⟨bd, 0, none⟩), .pointer (some ⟨br, 0, none⟩)] w fun e w' => e = .returned (.bool (eqB D r y)) ∧ Below w.heap.size w w' := by
  obtain ⟨A, c, rfl, hc⟩ := hv.form
  obtain ⟨d, hd⟩ : ∃ d, D[y]? = some d := ⟨_, List.getElem?_eq_getElem hy⟩
  obtain ⟨g, o, rfl, t0⟩ := hc y d hd
  unfold eqB
  rw [fn_at hd]
  have hy' : (y : Int) < (D.length : Int) := by omega
  have HB : Hid (Below w.heap.size w w) := Below.refl _ _
  clear hc hd hv
  go_enter Try.func120, Try.ntmps120
  go_wp2_with fail
  go_quiet (fail)
  go_wp2_with fail
  go_ret
  exact ⟨rfl, below_drewN HB.out _⟩
set_option maxHeartbeats 4000000 in
set_option maxRecDepth 100000 in
theorem isRankingOf_any (s : Int) (v u : Value) (l : List Ed) (tl : List Int) (w : World) (h : Edges w v l) (hl : l.length ≤ 1048576) (hu : Ints w u tl) (htl : tl.length ≤ 1048576) :
    Calls Try.prog 71 #[.agg #[.int .i64 s, v], u] w fun e w' => e = .returned (.bool (okG (RkOk s l tl))) ∧ Below w.heap.size w w' := by
  obtain ⟨A, c, rfl, -⟩ := h.form
  obtain ⟨A2, c2, rfl, -⟩ := hu.form
  have H := Lib.hid h
  have HU := Lib.hid hu
  have b0 : Below w.heap.size w ((w.alloc (.cells #[.int .i64 s, .slice A l.length c] 29)).alloc (.cells #[.slice A2 tl.length c2] 25)) := ((Below.refl _ _).alloc (Nat.le_refl _) _).alloc (by simp) _
  have g0 := (Blk.new w 29 #[.int .i64 s, .slice A l.length c]).alloc (.cells #[.slice A2 tl.length c2] 25)
  have r0 := Blk.new (w.alloc (.cells #[.int .i64 s, .slice A l.length c] 29)) 25 #[.slice A2 tl.length c2]
  rw [World.size_alloc] at r0
  have HG := Lib.hid (implIsGraph_any s _ l _ (h.below b0) hl)
  have hmf : ∀ (fn : Fn) (first cap : Array Value) (w : World), (Instr.makeFunc fn first cap).run Try.prog w = .ok (.func fn first cap) w := fun _ _ _ _ => rfl
  obtain ⟨p0, p1, -, -⟩ := g0.two
  clear h hu
  by_cases hgd : P2.Good s l
  · rw [goodB_yes hgd] at HG
    have h0 := hgd.1
    have h8 := hgd.2.1
    obtain ⟨n, rfl⟩ : ∃ n : Nat, s = (n : Int) := ⟨s.toNat, by omega⟩
    have hn : n ≤ 8 := by omega
    have HGD := Lib.hid hgd
    have HOK : Hid (RkOk (n : Int) l tl ↔ RkS n l tl) := by
      show _ ↔ _
      unfold RkOk
      rw [Int.toNat_natCast]
      exact ⟨fun h => h.2, fun h => ⟨hgd, h⟩⟩
    clear hgd
    by_cases hnl : tl.length = n
    · have HNL := Lib.hid hnl
      rw [hnl] at b0 g0 r0 HG p0 p1 ⊢
      have c3 := r0.cell 0
      have HU2 : Hid (∀ W, Below w.heap.size w W → Ints W (.slice A2 n c2) tl) := fun W hW => by have h_ := HU.out.below hW; rw [HNL.out] at h_; show Reads _ _ _ _ _; rw [HNL.out]; exact h_
      have HX0 : Hid (∀ y : Nat, y < 0 → RkAt n l tl y) := fun y hy => by omega
      clear hnl HU
      go_enter Try.func71, Try.ntmps71
      go_wp2_with fail
      refine HG.out.mono ?_
      rintro e w1 ⟨rfl, b1⟩
      have e1 := btrans b0 b1
      have g1 := g0.below b1 g0.lt
      have r1 := r0.below b1 r0.lt
      have HE1 := Lib.hid e1
      have HCB := Lib.hid (closedBits_any n (.slice A l.length c) l w1 (H.out.below e1) hl HGD.out hn)
      clear p0 p1 c3
      obtain ⟨p0, p1, -, -⟩ := g1.two
      have c3 := r1.cell 0
      go_wp2_with fail
      refine HCB.out.mono ?_
      rintro e w2 ⟨A3, c5, rfl, k3, b3⟩
      have HE2 := Lib.hid (btrans HE1.out b3)
      have HG2 := Lib.hid (g1.below b3 g1.lt)
      have HR2 := Lib.hid (r1.below b3 r1.lt)
      have HCL := Lib.hid k3
      clear p0 p1 c3 e1 b1 b3 g1 r1 b0 g0 r0 HG HCB k3
      obtain ⟨p0, p1, -, -⟩ := HG2.out.two
      have c3 := HR2.out.cell 0
      go_wp2_with fail
      clear p0 p1 c3
      go_loopg [24] n (fun g iv wr => ∃ x : Nat, x + g = n ∧ iv = .int .i64 (x : Int) ∧ Hid (∀ y : Nat, y < x → RkAt n l tl y) ∧ Below w2.heap.size w2 wr)
      case atStart => exact ⟨0, by omega, rfl, HX0, Below.refl _ _⟩
      case round =>
        clear HX0
        obtain ⟨x, hxg, rfl, hat, hB⟩ := hrel
        have HB := Lib.hid hB
        have hgb := HG2.out.below hB HG2.out.lt
        have hrb := HR2.out.below hB HR2.out.lt
        obtain ⟨p0, p1, -, -⟩ := hgb.two
        have c3 := hrb.cell 0
        cases gk with
        | zero =>
          obtain rfl : x = n := by omega
          have HV : Hid (okG (RkOk (x : Int) l tl) = true) := okG_yes (HOK.out.2 ⟨HNL.out, hat.out⟩)
          clear hB hgb hrb
          go_wp2_with fail
          go_ret
          rw [HV.out]
          exact ⟨rfl, btrans HE2.out HB.out⟩
        | succ g2 =>
          have hlt : x < n := by omega
          have hlt' : (x : Int) < (n : Int) := by omega
          obtain ⟨r, hr⟩ : ∃ r, tl[x]? = some r := ⟨_, List.getElem?_eq_getElem (by have := HNL.out; omega)⟩
          obtain ⟨_, _, hf, hcc⟩ := (HU2.out wr (btrans HE2.out hB)).form
          rw [HNL.out] at hf
          cases hf
          obtain ⟨g5, o5, rfl, q0⟩ := hcc x _ hr
          have hfr : fn tl x = r := fn_at hr
          have HFR := Lib.hid hfr
          have ba : Below wr.heap.size wr (wr.alloc (.cells #[.int .i64 r] 3)) := (Below.refl _ _).alloc (Nat.le_refl _) _
          have HBA := Lib.hid ba
          have HGA := Lib.hid (hgb.below ba hgb.lt)
          have HRA := Lib.hid (hrb.below ba hrb.lt)
          have HKA := Lib.hid (Blk.new wr 3 #[.int .i64 r])
          have HF1 := Lib.hid (fun (W : World) (hW : Below (wr.alloc (.cells #[.int .i64 r] 3)).heap.size (wr.alloc (.cells #[.int .i64 r] 3)) W) => nodesWhere_any n 119 #[.pointer (some ⟨w.heap.size + 1, 0, none⟩), .pointer (some ⟨wr.heap.size, 0, none⟩)] (lowB tl r) W hn
            { enter := fun _ _ => by kernel_rfl
              call := fun W' hW' y hy => rkClo1_any y r (w.heap.size + 1) wr.heap.size _ tl W' ((HRA.out.below (btrans hW hW') HRA.out.lt).cell 0) (HU2.out W' (btrans (btrans (btrans (btrans HE2.out HB.out) HBA.out) hW) hW')) ((HKA.out.below (btrans hW hW') HKA.out.lt).cell 0) (by have := HNL.out; omega) })
          have HF2 := Lib.hid (fun (W : World) (hW : Below (wr.alloc (.cells #[.int .i64 r] 3)).heap.size (wr.alloc (.cells #[.int .i64 r] 3)) W) => nodesWhere_any n 120 #[.pointer (some ⟨w.heap.size + 1, 0, none⟩), .pointer (some ⟨wr.heap.size, 0, none⟩)] (eqB tl r) W hn
            { enter := fun _ _ => by kernel_rfl
              call := fun W' hW' y hy => rkClo2_any y r (w.heap.size + 1) wr.heap.size _ tl W' ((HRA.out.below (btrans hW hW') HRA.out.lt).cell 0) (HU2.out W' (btrans (btrans (btrans (btrans HE2.out HB.out) HBA.out) hW) hW')) ((HKA.out.below (btrans hW hW') HKA.out.lt).cell 0) (by have := HNL.out; omega) })
          have HNOK : Hid (∀ h : ¬ RkAt n l tl x, okG (RkOk (n : Int) l tl) = false) := fun h => okG_no fun hh => h ((HOK.out.1 hh).2 x hlt)
          obtain ⟨m0, m1, -, -⟩ := HGA.out.two
          have HWB : Hid (Below w.heap.size w (wr.alloc (.cells #[.int .i64 r] 3))) := btrans (btrans HE2.out HB.out) HBA.out
          have HWC : Hid (Below w2.heap.size w2 (wr.alloc (.cells #[.int .i64 r] 3))) := btrans HB.out HBA.out
          have hl1 := nw_len (lowB tl r) n
          have hl2 := nw_len (eqB tl r) n
          clear hr hcc hB hgb hrb ba hfr HBA
          go_wp2_with fail
          generalize wr.alloc (.cells #[.int .i64 r] 3) = wx at *
          refine (HF1.out wx (Below.refl _ _)).mono ?_
          rintro e w4 ⟨A7, c7, rfl, o7, b7⟩
          have HBO := Lib.hid (bitsOf_any _ (nw (lowB tl r) n) w4 (show Ints _ _ _ from Reads.of_own o7) (by omega) (fun y hy => by obtain ⟨j, _, _, rfl⟩ := mem_nw.1 hy; omega))
          rw [code_nw] at HBO
          have HB4 := Lib.hid b7
          have HG4 := HGA.out.below b7 HGA.out.lt
          have HF24 := Lib.hid (HF2.out w4 b7)
          obtain ⟨n0, n1, -, -⟩ := HG4.two
          clear o7 b7 m0 m1
          go_wp2_with fail
          refine HBO.out.mono ?_
          rintro e w' ⟨rfl, rfl⟩
          go_wp2_with fail
          refine HF24.out.mono ?_
          rintro e w6 ⟨A8, c8, rfl, o8, b8⟩
          have HBO2 := Lib.hid (bitsOf_any _ (nw (eqB tl r) n) w6 (show Ints _ _ _ from Reads.of_own o8) (by omega) (fun y hy => by obtain ⟨j, _, _, rfl⟩ := mem_nw.1 hy; omega))
          rw [code_nw] at HBO2
          have d6 := btrans HB4.out b8
          have HB6 := Lib.hid (btrans HWC.out d6)
          have HK6 := HKA.out.below d6 HKA.out.lt
          have k6 := HK6.cell 0
          have HCI := Lib.hid (fun (W : World) (hW : Below w6.heap.size w6 W) => connectedIn_any n (lowB tl r) (fun y => decide (y = x)) (.slice A3 (clos l n).length c5) l W (HCL.out.below (btrans HB6.out hW)) HGD.out hn (fun z _ hz => by
            have e := of_decide_eq_true hz
            subst e
            unfold lowB
            rw [HFR.out]; simp))
          rw [num_one hlt, num_ext (p := connB n (J2 l) (lowB tl r) (fun y => decide (y = x))) (p' := reachB n (J2 l) (lowB tl r) x) (fun z _ => connB_one hlt)] at HCI
          have HAN : Hid (bits .and .u64 ((numOf (reachB n (J2 l) (lowB tl r) x) n : Nat) : Int) ((numOf (eqB tl r) n : Nat) : Int) = ((rkN n l tl x : Nat) : Int)) := by
            show _ = _
            rw [bits_and_u64_nat _ _ (by have := numOf_lt (reachB n (J2 l) (lowB tl r) x) hn; omega) (by have := numOf_lt (eqB tl r) hn; omega), num_and]
            unfold rkN
            rw [HFR.out]
          have HIF := Lib.hid (rkN_iff (l := l) (tl := tl) hlt)
          rw [HFR.out] at HIF
          have HRA2 : Hid (RkAt n l tl x ↔ 1 ≤ r ∧ rkN n l tl x = 2 ^ x) := by
            show _ ↔ _
            unfold RkAt
            rw [HFR.out, HIF.out]
          have hpw := wrap_pow (m := x) (by omega)
          clear o8 b8 n0 n1 HG4 HIF
          generalize numOf (reachB n (J2 l) (lowB tl r) x) n = ra at *
          generalize numOf (eqB tl r) n = ea at *
          generalize numOf (lowB tl r) n = la at *
          generalize rkN n l tl x = rk at *
          generalize 2 ^ x = pw at *
          go_wp2_with fail
          refine HBO2.out.mono ?_
          rintro e w' ⟨rfl, rfl⟩
          go_wp2_with fail
          have hAN := HAN.out
          have HC2 := Lib.hid (fun (m : Nat) => HCI.out (w6.drewN m) (below_drewN (Below.refl _ _) m))
          clear HAN HCI
          by_cases hr1 : r < 1
          · have hd0 : decide (r < 1) = true := decide_eq_true hr1
            have HV := Lib.hid (HNOK.out (fun h => by have := HRA2.out.1 h; omega))
            go_quiet (fail)
            have HB9 := Lib.hid (below_drewN (btrans HE2.out HB6.out) nq)
            clear k6
            go_wp2_with fail
            go_ret
            rw [HV.out]
            exact ⟨rfl, HB9.out⟩
          · have hd0 : decide (r < 1) = false := decide_eq_false hr1
            by_cases hrk : rk = pw
            · have hd1 : ((rk : Int) == (pw : Int)) = true := by rw [hrk]; simp
              have HAT : Hid (∀ y : Nat, y < x + 1 → RkAt n l tl y) := fun y hy => by
                by_cases e : y = x
                · subst e; exact HRA2.out.2 ⟨by omega, hrk⟩
                · exact hat.out y (by omega)
              clear hrk
              go_quiet (first | (go_at_call 121; exact quiet_left (HC2.out _)))
              have HB9 := Lib.hid (below_drewN HB6.out nq)
              clear k6
              go_wp2_with fail
              go_roundg g2
              case measure => omega
              case rel => exact ⟨x + 1, by omega, by go_num, HAT, HB9.out⟩
            · have hd1 : ((rk : Int) == (pw : Int)) = false := by simp; omega
              have HV := Lib.hid (HNOK.out (fun h => hrk (HRA2.out.1 h).2))
              clear hrk
              go_quiet (first | (go_at_call 121; exact quiet_left (HC2.out _)))
              have HB9 := Lib.hid (below_drewN (btrans HE2.out HB6.out) nq)
              clear k6
              go_wp2_with fail
              go_ret
              rw [HV.out]
              exact ⟨rfl, HB9.out⟩
    · have HV : Hid (okG (RkOk (n : Int) l tl) = false) := okG_no fun hf => hnl (HOK.out.1 hf).1
      have hd : ((tl.length : Int) == (n : Int)) = false := by simpa using (fun e => hnl (by omega) : ¬ (tl.length : Int) = (n : Int))
      have c3 := r0.cell 0
      have HB0 := Lib.hid b0
      clear hnl
      go_enter Try.func71, Try.ntmps71
      go_wp2_with fail
      refine HG.out.mono ?_
      rintro e w1 ⟨rfl, b1⟩
      have HE1 := Lib.hid (btrans b0 b1)
      have g1 := g0.below b1 g0.lt
      have r1 := r0.below b1 r0.lt
      clear p0 p1 c3
      obtain ⟨p0, p1, -, -⟩ := g1.two
      have c3 := r1.cell 0
      clear b0 b1
      go_wp2_with fail
      go_ret
      rw [HV.out]
      exact ⟨rfl, HE1.out⟩
  · rw [goodB_no hgd] at HG
    have HV : Hid (okG (RkOk s l tl) = false) := okG_no fun hf => hgd hf.1
    clear hgd
    go_enter Try.func71, Try.ntmps71
    go_wp2_with fail
    refine HG.out.mono ?_
    rintro e w1 ⟨rfl, b1⟩
    go_wp2_with fail
    go_ret
    rw [HV.out]
    exact ⟨rfl, btrans b0 b1⟩
set_option maxHeartbeats 1000000 in
set_option maxRecDepth 100000 in
theorem implIsRanking_any (s : Int) (v u : Value) (l : List Ed) (tl : List Int) (w : World) (h : Edges w v l) (hl : l.length ≤ 1048576) (hu : Ints w u tl) (htl : tl.length ≤ 1048576) :
    Calls Try.prog 34 #[.agg #[.int .i64 s, v], u] w fun e w' => e = .returned (.tuple #[.bool (okG (RkOk s l tl)), .bool (goodB s l)]) ∧ Below w.heap.size w w' := by
  obtain ⟨A, c, rfl, -⟩ := h.form
  have b0 : Below w.heap.size w (w.alloc (.cells #[.int .i64 s, .slice A l.length c] 29)) := (Below.refl _ _).alloc (Nat.le_refl _) _
  have g0 := Blk.new w 29 #[.int .i64 s, .slice A l.length c]
  have HO := Lib.hid (fun (W : World) (hW : Below w.heap.size w W) => isRankingOf_any s _ u l tl W (h.below hW) hl (hu.below hW) htl)
  have HG := Lib.hid (fun (W : World) (hW : Below w.heap.size w W) => implIsGraph_any s _ l W (h.below hW) hl)
  clear h hu
  obtain ⟨p0, p1, -, -⟩ := g0.two
  have HD : Hid (Below w.heap.size w (w.alloc (.cells #[.int .i64 s, .slice A l.length c] 29)).drew) := b0.drew
  clear b0 g0
  go_enter Try.func34, Try.ntmps34
  go_wp2_with fail
  generalize w.alloc (.cells #[.int .i64 s, .slice A l.length c] 29) = w0 at *
  go_region_held3 (fun w' => w'.cell? ⟨w.heap.size, 0, none⟩ = some (.int .i64 s) ∧ w'.cell? ⟨w.heap.size, 1, none⟩ = some (.slice A l.length c)) (go_keep)
    (first | (go_at_call 71; refine (keepb2 (HO.out _ (by first | exact HD.out | exact btrans HD.out b4)) (fun _ _ h => h.2) (p := ⟨w.heap.size, 0, none⟩) (q := ⟨w.heap.size, 1, none⟩) (a := .int .i64 s) (b := .slice A l.length c) ?_ ?_).mono ?_; (simp [*]); (simp [*]); rintro e w3 ⟨⟨rfl, b3⟩, k0, k1⟩)
           | (go_at_call 65; refine (keepb2 (HG.out _ (by first | exact HD.out | exact btrans HD.out b3)) (fun _ _ h => h.2) (p := ⟨w.heap.size, 0, none⟩) (q := ⟨w.heap.size, 1, none⟩) (a := .int .i64 s) (b := .slice A l.length c) ?_ ?_).mono ?_; (simp [*]); (simp [*]); rintro e w4 ⟨⟨rfl, b4⟩, k2, k3⟩))
  all_goals
    first | have e5 := btrans (btrans HD.out b3) b4 | have e5 := btrans (btrans HD.out b4) b3
    go_wp2_with fail
    go_ret2
    exact ⟨rfl, e5⟩
end Go.Proofs.Ytphlpipbhaiijaa.ranks
