/- The contracts of the program's hasNumber, spreadIn, SpreadOf and IsStopping. -/
import Derived.Handy
import Derived.Test.YtnmidgnkjpcpgaaSprM
import Derived.Test.YtnmidgnkjpcpgaaUpsI
import Derived.Test.YtnmidgnkjpcpgaaAround
import Derived.Test.YtnmidgnkjpcpgaaFunc
import Derived.Test.YtnmidgnkjpcpgaaRet
import Derived.Deep.DeepCutAuto
import Derived.Deep.RegionHeld3
import Derived.Deep.QuietTactic
import Derived.WalkMore
namespace Go.Proofs.Ytnmidgnkjpcpgaa.ups
open Go.RowKit P2 words edges ints good adjs fns sets rets covs bags bitsI func
set_option linter.unusedVariables false

/-- a valid Graph and a number of 1..8 -/
def NumOk (s : Int) (l : List Ed) (k : Int) : Prop := P2.Good s l ∧ 1 ≤ k ∧ k ≤ 8
def SpOk (s : Int) (l : List Ed) (xs : List Int) (r : Int) : Prop := NumOk s l r ∧ SetOk s l xs
noncomputable def sprL (s : Int) (l : List Ed) (xs : List Int) (r : Int) : List Int := ndN (spN s.toNat l r.toNat (codeL xs))
set_option maxHeartbeats 1000000 in
set_option maxRecDepth 100000 in
theorem hasNumber_any (s k : Int) (v : Value) (l : List Ed) (w : World) (h : Edges w v l) (hl : l.length ≤ 1048576) :
    Calls Try.prog 57 #[.agg #[.int .i64 s, v], .int .i64 k] w fun e w' => e = .returned (.bool (okG (NumOk s l k))) ∧ Below w.heap.size w w' := by
  obtain ⟨A, c, rfl, -⟩ := h.form
  have b0 : Below w.heap.size w (w.alloc (.cells #[.int .i64 s, .slice A l.length c] 29)) := (Below.refl _ _).alloc (Nat.le_refl _) _
  obtain ⟨p0, p1, -, -⟩ := (Blk.new w 29 #[.int .i64 s, .slice A l.length c]).two
  have HG := Lib.hid (implIsGraph_any s _ l _ (h.below b0) hl)
  have HB0 := Lib.hid b0
  clear h b0
  by_cases hgd : P2.Good s l
  · rw [goodB_yes hgd] at HG
    by_cases h1 : 1 ≤ k
    · by_cases h2 : k ≤ 8
      · have HV : Hid (okG (NumOk s l k) = true) := okG_yes ⟨hgd, h1, h2⟩
        clear hgd
        go_enter Try.func57, Try.ntmps57
        go_wp2_with fail
        refine HG.out.mono ?_
        rintro e w1 ⟨rfl, b1⟩
        go_wp2_with fail
        go_ret
        exact ⟨ret_bool HV.out.symm, btrans HB0.out b1⟩
      · have HV : Hid (okG (NumOk s l k) = false) := okG_no fun h => h2 h.2.2
        clear hgd
        go_enter Try.func57, Try.ntmps57
        go_wp2_with fail
        refine HG.out.mono ?_
        rintro e w1 ⟨rfl, b1⟩
        go_wp2_with fail
        go_ret
        exact ⟨ret_bool (by rw [HV.out]; exact decide_eq_false (by omega)), btrans HB0.out b1⟩
    · have HV : Hid (okG (NumOk s l k) = false) := okG_no fun h => h1 h.2.1
      clear hgd
      go_enter Try.func57, Try.ntmps57
      go_wp2_with fail
      refine HG.out.mono ?_
      rintro e w1 ⟨rfl, b1⟩
      go_wp2_with fail
      go_ret
      exact ⟨ret_bool HV.out.symm, btrans HB0.out b1⟩
  · rw [goodB_no hgd] at HG
    have HV : Hid (okG (NumOk s l k) = false) := okG_no fun h => hgd h.1
    clear hgd
    go_enter Try.func57, Try.ntmps57
    go_wp2_with fail
    refine HG.out.mono ?_
    rintro e w1 ⟨rfl, b1⟩
    go_wp2_with fail
    go_ret
    exact ⟨ret_bool HV.out.symm, btrans HB0.out b1⟩
set_option maxHeartbeats 2000000 in
set_option maxRecDepth 100000 in
theorem spreadIn_any (n r c : Nat) (v : Value) (l : List Ed) (w : World) (h : Nums w v (clos l n)) (hg : P2.Good (n : Int) l) (hn : n ≤ 8) (hc : c < 2 ^ n) :
    Calls Try.prog 66 #[v, .int .u64 (c : Int), .int .i64 (r : Int)] w fun e w' => spN n l r c < 2 ^ n ∧ e = .returned (.int .u64 (spN n l r c : Int)) ∧ w = w' := by
  obtain ⟨A, cc, rfl, hcl⟩ := h.form
  have HCL := Lib.hid hcl
  have HG := Lib.hid hg
  have hlen := clos_len l n
  rw [hlen]
  have HHS := Lib.hid (fun (d k : Nat) (hd : d < 256) (hk : k ≤ 8) => has_any d k w (by omega) hk)
  have HCT := Lib.hid (fun (d : Nat) (hd : d < 256) => count_any d w hd)
  have H0 : Hid (Spr n l r c c) := Spr.base
  have HC := Lib.hid hc
  have hp8 := pow_le hn
  have ho8 := ones_le c
  have HP8 := Lib.hid hp8
  clear h hcl hg hlen hc hp8
  go_enter Try.func66, Try.ntmps66
  go_wp2_with fail
  go_step3
  go_wp2_with fail
  go_step3
  go_wp2_with fail
  go_loopg [1] 8 (fun g sv wr => ∃ d : Nat, sv = .int .u64 (d : Int) ∧ Hid (Spr n l r c d) ∧ 8 ≤ onesN d + g ∧ wr = w)
  case atStart => exact ⟨c, rfl, H0, by omega, rfl⟩
  case round =>
    clear H0 ho8
    obtain ⟨d, rfl, hsp, hmeas, rfl⟩ := hrel
    have HDN := Lib.hid (spr_lt hsp.out HC.out)
    have hd256 : d < 256 := Nat.lt_of_lt_of_le HDN.out HP8.out
    have HK0 : Hid (∀ j, j < 0 → ¬ AddS n l r d j) := fun j hj => by omega
    obtain ⟨gO, hgO⟩ : ∃ gO, gO = gk := ⟨_, rfl⟩
    subst hgO
    go_wp2_with fail
    go_loopg [1, 11] n (fun g sv iv wx => ∃ k : Nat, k + g = n ∧ sv = .int .u64 (d : Int) ∧ iv = .int .i64 (k : Int) ∧ Hid (∀ j, j < k → ¬ AddS n l r d j) ∧ wx = wr)
    case atStart => exact ⟨0, by omega, rfl, rfl, HK0, rfl⟩
    case round =>
      clear HK0
      obtain ⟨k, hkg, rfl, rfl, hno, rfl⟩ := hrel
      cases gk with
      | zero =>
        obtain rfl : k = n := by omega
        have HV : Hid (spN k l r c = d) := spN_is hsp.out (fun x hx => hno.out x hx.1 hx)
        go_wp2_with fail
        rw [Exit.noGoto_ret]
        go_ret
        rw [HV.out]
        exact ⟨HDN.out, rfl, rfl⟩
      | succ g2 =>
        have hlt : k < n := by omega
        have hlt' : (k : Int) < (n : Int) := by omega
        have hk8 : k ≤ 8 := by omega
        obtain ⟨g5, o5, rfl, c0⟩ := HCL.out k _ (clos_at hlt)
        have hcb := cloB_lt' HG.out k (by omega)
        have hand := bits_and_u64_nat (cloB l k) d (by omega) (by omega)
        have hab : cloB l k &&& d < 256 := Nat.lt_of_le_of_lt Nat.and_le_right hd256
        have hor := or_walk d k hd256 hk8
        have HH := Lib.hid (HHS.out d k hd256 hk8)
        have HCC := Lib.hid (HCT.out (cloB l k &&& d) hab)
        cases hb : d.testBit k with
        | true =>
          have HK : Hid (∀ j, j < k + 1 → ¬ AddS n l r d j) := fun j hj => by
            by_cases e : j = k
            · subst e; exact fun h_ => by have := h_.2.1; rw [hb] at this; cases this
            · exact hno.out j (by omega)
          rw [hb] at HH
          clear hb hand hor hab HCC
          go_wp2_with fail
          refine HH.out.mono ?_
          rintro e w' ⟨rfl, rfl⟩
          go_wp2_with fail
          go_roundg g2
          case measure => omega
          case rel => exact ⟨k + 1, by omega, rfl, by go_num, HK, rfl⟩
        | false =>
          rw [hb] at HH
          have hins : onesN (cloB l k &&& d) = insN l d k := rfl
          rw [hins] at HCC
          by_cases hr : r ≤ insN l d k
          · have HA : Hid (AddS n l r d k) := ⟨hlt, hb, hr⟩
            have HON := Lib.hid (ones_put hd256 (show k < 8 by omega) hb)
            have hr' : (r : Int) ≤ (insN l d k : Int) := by omega
            have hle := ones_le (d ||| 2 ^ k)
            have HME : Hid (onesN d + 1 ≤ 8) := by have := HON.out; show _ ≤ _; omega
            clear hb hab hins hle
            generalize insN l d k = q at *
            generalize cloB l k &&& d = y1 at *
            generalize cloB l k = y2 at *
            go_wp2_with fail
            refine HH.out.mono ?_
            rintro e w' ⟨rfl, rfl⟩
            go_wp2_with fail
            refine HCC.out.mono ?_
            rintro e w' ⟨rfl, rfl⟩
            go_wp2_with fail
            go_roundg (gO - 1)
            case measure => have := HME.out; omega
            case rel => exact ⟨d ||| 2 ^ k, by rfl, Spr.step hsp.out HA.out, by have := HON.out; have := HME.out; omega, rfl⟩
          · have HK : Hid (∀ j, j < k + 1 → ¬ AddS n l r d j) := fun j hj => by
              by_cases e : j = k
              · subst e; exact fun h_ => hr h_.2.2
              · exact hno.out j (by omega)
            have hr' : ¬ (r : Int) ≤ (insN l d k : Int) := by omega
            clear hb hab hins hor
            generalize insN l d k = q at *
            generalize cloB l k &&& d = y1 at *
            generalize cloB l k = y2 at *
            go_wp2_with fail
            refine HH.out.mono ?_
            rintro e w' ⟨rfl, rfl⟩
            go_wp2_with fail
            refine HCC.out.mono ?_
            rintro e w' ⟨rfl, rfl⟩
            go_wp2_with fail
            go_roundg g2
            case measure => omega
            case rel => exact ⟨k + 1, by omega, rfl, by go_num, HK, rfl⟩
theorem code_set {n : Nat} {l : List Ed} {xs : List Int} (h : SetOk (n : Int) l xs) : codeL xs < 2 ^ n := code_lt (m := n) h.2.1
set_option maxHeartbeats 2000000 in
set_option maxRecDepth 100000 in
theorem implSpread_any (s r : Int) (v u : Value) (l : List Ed) (xs : List Int) (w : World) (h : Edges w v l) (hl : l.length ≤ 1048576) (hu : Ints w u xs) (hxl : xs.length ≤ 1048576) :
    Calls Try.prog 23 #[.agg #[.int .i64 s, v], u, .int .i64 r] w (RetI w (SpOk s l xs r) (sprL s l xs r)) := by
  obtain ⟨A, c, rfl, -⟩ := h.form
  have H := Lib.hid h
  have HU := Lib.hid hu
  have b0 : Below w.heap.size w (w.alloc (.cells #[.int .i64 s, .slice A l.length c] 29)) := (Below.refl _ _).alloc (Nat.le_refl _) _
  have g0 := Blk.new w 29 #[.int .i64 s, .slice A l.length c]
  obtain ⟨p0, p1, -, -⟩ := g0.two
  have HN := Lib.hid (hasNumber_any s r _ l _ (h.below b0) hl)
  have HS := Lib.hid (fun (W : World) (hW : Below w.heap.size w W) => hasSet_any s (.slice A l.length c) u l xs W (H.out.below hW) hl (HU.out.below hW) hxl)
  have HB0 := Lib.hid b0
  have HG0 := Lib.hid g0
  clear h hu b0 g0
  by_cases hnk : NumOk s l r
  · rw [okG_yes hnk] at HN
    by_cases hso : SetOk s l xs
    · rw [okG_yes hso] at HS
      have HOK : Hid (SpOk s l xs r) := ⟨hnk, hso⟩
      have h0 := hnk.1.1
      have h8 := hnk.1.2.1
      obtain ⟨n, rfl⟩ : ∃ n : Nat, s = (n : Int) := ⟨s.toNat, by omega⟩
      have hn : n ≤ 8 := by omega
      obtain ⟨rr, rfl⟩ : ∃ rr : Nat, r = (rr : Int) := ⟨r.toNat, by have := hnk.2.1; omega⟩
      have HSL : Hid (sprL (n : Int) l xs (rr : Int) = ndN (spN n l rr (codeL xs))) := by show _ = _; unfold sprL; rw [Int.toNat_natCast, Int.toNat_natCast]
      have HC := Lib.hid (code_set hso)
      clear hnk hso
      go_enter Try.func23, Try.ntmps23
      go_wp2_with fail
      refine HN.out.mono ?_
      rintro e w1 ⟨rfl, b1⟩
      have HE1 := Lib.hid (btrans HB0.out b1)
      have HG1 := Lib.hid (HG0.out.below b1 HG0.out.lt)
      have HSS := Lib.hid (HS.out w1 HE1.out)
      clear p0 p1 b1 HN HS HB0 HG0
      obtain ⟨p0, p1, -, -⟩ := HG1.out.two
      go_wp2_with fail
      refine HSS.out.mono ?_
      rintro e w2 ⟨rfl, b2⟩
      have HE2 := Lib.hid (btrans HE1.out b2)
      have HG2 := Lib.hid (HG1.out.below b2 HG1.out.lt)
      clear p0 p1 b2 HSS HE1 HG1
      obtain ⟨p0, p1, -, -⟩ := HG2.out.two
      have HCB := Lib.hid (closedBits_any n (.slice A l.length c) l w2 (H.out.below HE2.out) hl HOK.out.1.1 hn)
      go_wp2_with fail
      refine HCB.out.mono ?_
      rintro e w3 ⟨A3, c3, rfl, i3, b3⟩
      have HE3 := Lib.hid (btrans HE2.out b3)
      have HBO := Lib.hid (bitsOf_any u xs w3 (HU.out.below HE3.out) hxl (fun x hx => by have := HOK.out.2.2.1 x hx; omega))
      have HSP := Lib.hid (spreadIn_any n rr (codeL xs) _ l w3 i3 HOK.out.1.1 hn HC.out)
      have HND := Lib.hid (fun (hlt : spN n l rr (codeL xs) < 18446744073709551616) => nodes_any (spN n l rr (codeL xs)) w3 hlt)
      clear p0 p1 b3 i3 HCB
      go_wp2_with fail
      refine HBO.out.mono ?_
      rintro e w' ⟨rfl, rfl⟩
      go_wp2_with fail
      refine HSP.out.mono ?_
      rintro e w' ⟨hslt, rfl, rfl⟩
      have hs64 : spN n l rr (codeL xs) < 18446744073709551616 := Nat.lt_of_lt_of_le hslt (Nat.le_trans (pow_le hn) (by decide))
      clear hslt
      go_wp2_with fail
      refine (HND.out hs64).mono ?_
      rintro e w4 ⟨A4, c4, rfl, o4, b4⟩
      go_wp2_with fail
      go_ret2
      rw [HSL.out]
      exact RetI.yes HOK.out (own_base o4 HE3.out.size) (btrans HE3.out b4)
    · rw [okG_no hso] at HS
      have HNO : Hid (¬ SpOk s l xs r) := fun h => hso h.2
      clear hnk hso
      go_enter Try.func23, Try.ntmps23
      go_wp2_with fail
      refine HN.out.mono ?_
      rintro e w1 ⟨rfl, b1⟩
      have HE1 := Lib.hid (btrans HB0.out b1)
      have HG1 := Lib.hid (HG0.out.below b1 HG0.out.lt)
      have HSS := Lib.hid (HS.out w1 HE1.out)
      clear p0 p1 b1 HN HS HB0 HG0
      obtain ⟨p0, p1, -, -⟩ := HG1.out.two
      go_wp2_with fail
      refine HSS.out.mono ?_
      rintro e w2 ⟨rfl, b2⟩
      have HE2 := Lib.hid (btrans HE1.out b2)
      clear p0 p1 b2
      go_wp2_with fail
      go_ret2
      exact RetI.nil HNO.out HE2.out
  · rw [okG_no hnk] at HN
    have HNO : Hid (¬ SpOk s l xs r) := fun h => hnk h.1
    clear hnk
    go_enter Try.func23, Try.ntmps23
    go_wp2_with fail
    refine HN.out.mono ?_
    rintro e w1 ⟨rfl, b1⟩
    have HE1 := Lib.hid (btrans HB0.out b1)
    clear p0 p1 b1
    go_wp2_with fail
    go_ret2
    exact RetI.nil HNO.out HE1.out
/-- the nodes of a neighborhood that are not in a set -/
def outN (l : List Ed) (n d x : Nat) : Nat := numOf (fun z => (cloB l x).testBit z && !d.testBit z) n
theorem num_bits {n g : Nat} (hg : g < 2 ^ n) : numOf (bitB g) n = g := by
  apply Nat.eq_of_testBit_eq
  intro i
  rw [numOf_bit]
  unfold bitB
  by_cases hi : i < n
  · simp [hi]
  · rw [decide_eq_false hi, Bool.false_and, Nat.testBit_lt_two_pow (Nat.lt_of_lt_of_le hg (Nat.pow_le_pow_right (by decide) (by omega)))]
theorem out_walk {n d x : Nat} {l : List Ed} (hg : P2.Good (n : Int) l) (hn : n ≤ 8) (hd : d < 2 ^ n) (hx : x < n) : bits .andNot .u64 (cloB l x : Int) (d : Int) = (outN l n d x : Int) := by
  have h1 := cloB_lt' hg x (by omega)
  have h2 := andNot_num (cloB l x) (bitB d) n (by omega) hn (fun z => (cloB l x).testBit z && !d.testBit z) (fun z _ => by
    unfold bitB
    by_cases hz : z < n
    · simp [hz]
    · have : (cloB l x).testBit z = false := by
        rw [cloB_bit hg, Bool.or_eq_false_iff]
        refine ⟨by simp; omega, ?_⟩
        cases ha : adj l (x : Int) (z : Int) with
        | false => rfl
        | true => have := (adj_node hg ha).2; omega
      simp [this])
  rw [num_bits hd] at h2
  exact h2
/-- each node of the set has less than r neighbors that are not in it -/
def stoB (l : List Ed) (n r d : Nat) (x : Int) : Bool := decide (r ≤ onesN (outN l n d x.toNat))
def StP (s : Int) (l : List Ed) (xs : List Int) (r : Int) : Prop := SpOk s l xs r ∧ 0 < xs.length ∧ xs.any (stoB l s.toNat r.toNat (codeL xs)) = false
set_option maxHeartbeats 1000000 in
set_option maxRecDepth 100000 in
theorem stopClo_any (n x r d b1 b2 b3 : Nat) (v : Value) (l : List Ed) (w : World) (h1 : w.cell? ⟨b1, 0, none⟩ = some v) (h2 : w.cell? ⟨b2, 0, none⟩ = some (.int .u64 (d : Int))) (h3 : w.cell? ⟨b3, 0, none⟩ = some (.int .i64 (r : Int))) (h : Nums w v (clos l n)) (hg : P2.Good (n : Int) l) (hn : n ≤ 8) (hd : d < 2 ^ n) (hx : x < n) :
    Calls Try.prog 62 #[.int .i64 (x : Int), .pointer (some ⟨b1, 0, none⟩), .pointer (some ⟨b2, 0, none⟩), .pointer (some ⟨b3, 0, none⟩)] w fun e w' => e = .returned (.bool (stoB l n r d (x : Int))) ∧ Below w.heap.size w w' := by
  obtain ⟨A, c, rfl, hcl⟩ := h.form
  obtain ⟨g6, o6, rfl, c6⟩ := hcl x _ (clos_at hx)
  have hlen := clos_len l n
  rw [hlen] at h1
  have hx' : (x : Int) < (n : Int) := by omega
  have hw := out_walk hg hn hd hx
  have HO := Lib.hid (fun (W : World) => count_any (outN l n d x) W (numOf_lt _ hn))
  have HV : Hid (stoB l n r d (x : Int) = decide (r ≤ onesN (outN l n d x))) := by show _ = _; unfold stoB; rw [Int.toNat_natCast]
  clear hcl h hg hlen hd
  rw [HV.out]
  clear HV
  generalize outN l n d x = y1 at *
  generalize cloB l x = y2 at *
  go_enter Try.func62, Try.ntmps62
  go_wp2_with fail
  go_quiet (first | (go_at_call 63; exact quiet_left (HO.out _)))
  go_wp2_with fail
  go_ret
  exact ⟨rfl, below_drewN (Below.refl _ _) _⟩
set_option maxHeartbeats 2000000 in
set_option maxRecDepth 100000 in
theorem implStop_any (s r : Int) (v u : Value) (l : List Ed) (xs : List Int) (w : World) (h : Edges w v l) (hl : l.length ≤ 1048576) (hu : Ints w u xs) (hxl : xs.length ≤ 1048576) :
    Calls Try.prog 19 #[.agg #[.int .i64 s, v], u, .int .i64 r] w fun e w' => e = .returned (.tuple #[.bool (okG (StP s l xs r)), .bool (okG (SpOk s l xs r))]) ∧ Below w.heap.size w w' := by
  obtain ⟨A, c, rfl, -⟩ := h.form
  obtain ⟨A2, c2, rfl, -⟩ := hu.form
  have hmf : ∀ (fn : Fn) (first cap : Array Value) (w : World), (Instr.makeFunc fn first cap).run Try.prog w = .ok (.func fn first cap) w := fun _ _ _ _ => rfl
  have H := Lib.hid h
  have HU := Lib.hid hu
  have b0 : Below w.heap.size w ((w.alloc (.cells #[.int .i64 s, .slice A l.length c] 29)).alloc (.cells #[.int .i64 r] 3)) := ((Below.refl _ _).alloc (Nat.le_refl _) _).alloc (by simp) _
  have g0 := (Blk.new w 29 #[.int .i64 s, .slice A l.length c]).alloc (.cells #[.int .i64 r] 3)
  have r0 := Blk.new (w.alloc (.cells #[.int .i64 s, .slice A l.length c] 29)) 3 #[.int .i64 r]
  rw [World.size_alloc] at r0
  obtain ⟨p0, p1, -, -⟩ := g0.two
  have p2 := r0.cell 0
  have HN := Lib.hid (hasNumber_any s r _ l _ (h.below b0) hl)
  have HS := Lib.hid (fun (W : World) (hW : Below w.heap.size w W) => hasSet_any s (.slice A l.length c) (.slice A2 xs.length c2) l xs W (H.out.below hW) hl (HU.out.below hW) hxl)
  have HB0 := Lib.hid b0
  have HG0 := Lib.hid g0
  have HR0 := Lib.hid r0
  clear h hu b0 g0 r0
  by_cases hnk : NumOk s l r
  · rw [okG_yes hnk] at HN
    by_cases hso : SetOk s l xs
    · rw [okG_yes hso] at HS
      have HOK : Hid (SpOk s l xs r) := ⟨hnk, hso⟩
      have h0 := hnk.1.1
      have h8 := hnk.1.2.1
      obtain ⟨n, rfl⟩ : ∃ n : Nat, s = (n : Int) := ⟨s.toNat, by omega⟩
      have hn : n ≤ 8 := by omega
      obtain ⟨rr, rfl⟩ : ∃ rr : Nat, r = (rr : Int) := ⟨r.toNat, by have := hnk.2.1; omega⟩
      have HC := Lib.hid (code_set hso)
      clear hnk hso
      go_enter Try.func19, Try.ntmps19
      go_wp2_with fail
      refine HN.out.mono ?_
      rintro e w1 ⟨rfl, b1⟩
      have HE1 := Lib.hid (btrans HB0.out b1)
      have HG1 := Lib.hid (HG0.out.below b1 HG0.out.lt)
      have HR1 := Lib.hid (HR0.out.below b1 HR0.out.lt)
      have HSS := Lib.hid (HS.out w1 HE1.out)
      clear p0 p1 p2 b1 HN HS HB0 HG0 HR0
      obtain ⟨p0, p1, -, -⟩ := HG1.out.two
      have p2 := HR1.out.cell 0
      go_wp2_with fail
      refine HSS.out.mono ?_
      rintro e w2 ⟨rfl, b2⟩
      have HE2 := Lib.hid (btrans HE1.out b2)
      have HG2 := Lib.hid (HG1.out.below b2 HG1.out.lt)
      have HR2 := Lib.hid (HR1.out.below b2 HR1.out.lt)
      clear p0 p1 p2 b2 HSS HE1 HG1 HR1
      obtain ⟨p0, p1, -, -⟩ := HG2.out.two
      have HCB := Lib.hid (closedBits_any n (.slice A l.length c) l w2 (H.out.below HE2.out) hl HOK.out.1.1 hn)
      go_wp2_with fail
      refine HCB.out.mono ?_
      rintro e w3 ⟨A3, c3, rfl, i3, b3⟩
      have HE3 := Lib.hid (btrans HE2.out b3)
      have HR3 := Lib.hid (HR2.out.below b3 HR2.out.lt)
      have HI3 := Lib.hid i3
      have HBO := Lib.hid (bitsOf_any (.slice A2 xs.length c2) xs w3 (HU.out.below HE3.out) hxl (fun x hx => by have := HOK.out.2.2.1 x hx; omega))
      clear p0 p1 b3 i3 HCB
      go_wp2_with fail
      refine HBO.out.mono ?_
      rintro e w' ⟨rfl, rfl⟩
      go_wp2_with fail
      have g4 := (Blk.new w3 63 #[.slice A3 (clos l n).length c3]).alloc (.cells #[.int .u64 (codeL xs : Int)] 66)
      have g5 := Blk.new (w3.alloc (.cells #[.slice A3 (clos l n).length c3] 63)) 66 #[.int .u64 (codeL xs : Int)]
      rw [World.size_alloc] at g5
      have b5 : Below w3.heap.size w3 ((w3.alloc (.cells #[.slice A3 (clos l n).length c3] 63)).alloc (.cells #[.int .u64 (codeL xs : Int)] 66)) := ((Below.refl _ _).alloc (Nat.le_refl _) _).alloc (by simp) _
      have hmm : ∀ x ∈ xs, 0 ≤ x ∧ x < (n : Int) := HOK.out.2.2.1
      have HCF := Lib.hid (containsFuncI_any (.slice A2 xs.length c2) xs 62 #[.pointer (some ⟨w3.heap.size, 0, none⟩), .pointer (some ⟨w3.heap.size + 1, 0, none⟩), .pointer (some ⟨w.heap.size + 1, 0, none⟩)] (stoB l n rr (codeL xs)) _ ((HU.out.below HE3.out).below b5) hxl
        { enter := fun _ _ => by kernel_rfl
          call := fun W hW x hx => by
            obtain ⟨xn, rfl⟩ : ∃ xn : Nat, x = (xn : Int) := ⟨x.toNat, by have := hmm x hx; omega⟩
            exact stopClo_any n xn rr (codeL xs) w3.heap.size (w3.heap.size + 1) (w.heap.size + 1) _ l W ((g4.below hW g4.lt).cell 0) ((g5.below hW g5.lt).cell 0) ((HR3.out.below (btrans b5 hW) HR3.out.lt).cell 0) (HI3.out.below (btrans b5 hW)) HOK.out.1.1 hn HC.out (by have := hmm _ hx; omega) })
      have HB5 := Lib.hid (btrans HE3.out b5)
      have HVV : Hid (okG (SpOk (n : Int) l xs (rr : Int)) = true) := okG_yes HOK.out
      clear g4 g5 b5 hmm HBO
      by_cases hx0 : 0 < xs.length
      · have hx0' : (0 : Int) < (xs.length : Int) := by omega
        have HXX := Lib.hid hx0
        cases hany : xs.any (stoB l n rr (codeL xs)) with
        | true =>
          have HV : Hid (okG (StP (n : Int) l xs (rr : Int)) = false) := okG_no fun h_ => by have := h_.2.2; rw [Int.toNat_natCast, Int.toNat_natCast, hany] at this; cases this
          rw [hany] at HCF
          clear hany
          refine HCF.out.mono ?_
          rintro e w6 ⟨rfl, b6⟩
          go_wp2_with fail
          go_ret2
          rw [HV.out, HVV.out]
          exact ⟨rfl, btrans HB5.out b6⟩
        | false =>
          have HV : Hid (okG (StP (n : Int) l xs (rr : Int)) = true) := okG_yes ⟨HOK.out, HXX.out, by rw [Int.toNat_natCast, Int.toNat_natCast, hany]⟩
          rw [hany] at HCF
          clear hany
          refine HCF.out.mono ?_
          rintro e w6 ⟨rfl, b6⟩
          go_wp2_with fail
          go_ret2
          rw [HV.out, HVV.out]
          exact ⟨rfl, btrans HB5.out b6⟩
      · have hx0' : ¬ (0 : Int) < (xs.length : Int) := by omega
        have HV : Hid (okG (StP (n : Int) l xs (rr : Int)) = false) := okG_no fun h_ => hx0 h_.2.1
        refine HCF.out.mono ?_
        rintro e w6 ⟨rfl, b6⟩
        go_wp2_with fail
        go_ret2
        rw [HV.out, HVV.out]
        exact ⟨rfl, btrans HB5.out b6⟩
    · rw [okG_no hso] at HS
      have HNO : Hid (okG (SpOk s l xs r) = false) := okG_no fun h => hso h.2
      have HNV : Hid (okG (StP s l xs r) = false) := okG_no fun h => hso h.1.2
      clear hnk hso
      go_enter Try.func19, Try.ntmps19
      go_wp2_with fail
      refine HN.out.mono ?_
      rintro e w1 ⟨rfl, b1⟩
      have HE1 := Lib.hid (btrans HB0.out b1)
      have HG1 := Lib.hid (HG0.out.below b1 HG0.out.lt)
      have HSS := Lib.hid (HS.out w1 HE1.out)
      clear p0 p1 p2 b1 HN HS HB0 HG0
      obtain ⟨p0, p1, -, -⟩ := HG1.out.two
      go_wp2_with fail
      refine HSS.out.mono ?_
      rintro e w2 ⟨rfl, b2⟩
      have HE2 := Lib.hid (btrans HE1.out b2)
      clear p0 p1 b2
      go_wp2_with fail
      go_ret2
      rw [HNO.out, HNV.out]
      exact ⟨rfl, HE2.out⟩
  · rw [okG_no hnk] at HN
    have HNO : Hid (okG (SpOk s l xs r) = false) := okG_no fun h => hnk h.1
    have HNV : Hid (okG (StP s l xs r) = false) := okG_no fun h => hnk h.1.1
    clear hnk
    go_enter Try.func19, Try.ntmps19
    go_wp2_with fail
    refine HN.out.mono ?_
    rintro e w1 ⟨rfl, b1⟩
    have HE1 := Lib.hid (btrans HB0.out b1)
    clear p0 p1 p2 b1
    go_wp2_with fail
    go_ret2
    rw [HNO.out, HNV.out]
    exact ⟨rfl, HE1.out⟩
end Go.Proofs.Ytnmidgnkjpcpgaa.ups
