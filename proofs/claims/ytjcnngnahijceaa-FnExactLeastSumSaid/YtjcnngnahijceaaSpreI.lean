/- The contracts of the program's hasNumber, spreadIn, SpreadOf and IsStopping. -/
import Derived.Handy
import Derived.Test.YtjcnngnahijceaaSprM
import Derived.Test.YtjcnngnahijceaaUpsI
import Derived.Test.YtjcnngnahijceaaAround
import Derived.Test.YtjcnngnahijceaaFunc
import Derived.Test.YtjcnngnahijceaaRet
import Derived.Deep.DeepCutAuto
import Derived.Deep.RegionHeld3
import Derived.Deep.QuietTactic
import Derived.WalkMore
namespace Go.Proofs.Ytjcnngnahijceaa.ups
open Go.RowKit P2 words edges ints good adjs fns sets rets covs bags bitsI func
set_option linter.unusedVariables false

/-- a valid Graph and a number of 1..8 -/
def NumOk (s : Int) (l : List Ed) (k : Int) : Prop := P2.Good s l ∧ 1 ≤ k ∧ k ≤ 8
def SpOk (s : Int) (l : List Ed) (xs : List Int) (r : Int) : Prop := NumOk s l r ∧ SetOk s l xs
noncomputable def sprL (s : Int) (l : List Ed) (xs : List Int) (r : Int) : List Int := ndN (spN s.toNat l r.toNat (codeL xs))
set_option maxHeartbeats 1000000 in
set_option maxRecDepth 100000 in
theorem hasNumber_any (s k : Int) (v : Value) (l : List Ed) (w : World) (h : Edges w v l) (hl : l.length ≤ 1048576) :
    Calls Try.prog 74 #[.agg #[.int .i64 s, v], .int .i64 k] w fun e w' => e = .returned (.bool (okG (NumOk s l k))) ∧ Below w.heap.size w w' := by
  obtain ⟨A, c, rfl, -⟩ := h.form
  have b0 : Below w.heap.size w (w.alloc (.cells #[.int .i64 s, .slice A l.length c] 28)) := (Below.refl _ _).alloc (Nat.le_refl _) _
  obtain ⟨p0, p1, -, -⟩ := (Blk.new w 28 #[.int .i64 s, .slice A l.length c]).two
  have HG := Lib.hid (implIsGraph_any s _ l _ (h.below b0) hl)
  have HB0 := Lib.hid b0
  clear h b0
  by_cases hgd : P2.Good s l
  · rw [goodB_yes hgd] at HG
    by_cases h1 : 1 ≤ k
    · by_cases h2 : k ≤ 8
      · have HV : Hid (okG (NumOk s l k) = true) := okG_yes ⟨hgd, h1, h2⟩
        clear hgd
        go_enter Try.func74, Try.ntmps74
        go_wp2_with fail
        refine HG.out.mono ?_
        rintro e w1 ⟨rfl, b1⟩
        go_wp2_with fail
        go_ret
        exact ⟨ret_bool HV.out.symm, btrans HB0.out b1⟩
      · have HV : Hid (okG (NumOk s l k) = false) := okG_no fun h => h2 h.2.2
        clear hgd
        go_enter Try.func74, Try.ntmps74
        go_wp2_with fail
        refine HG.out.mono ?_
        rintro e w1 ⟨rfl, b1⟩
        go_wp2_with fail
        go_ret
        exact ⟨ret_bool (by rw [HV.out]; exact decide_eq_false (by omega)), btrans HB0.out b1⟩
    · have HV : Hid (okG (NumOk s l k) = false) := okG_no fun h => h1 h.2.1
      clear hgd
      go_enter Try.func74, Try.ntmps74
      go_wp2_with fail
      refine HG.out.mono ?_
      rintro e w1 ⟨rfl, b1⟩
      go_wp2_with fail
      go_ret
      exact ⟨ret_bool HV.out.symm, btrans HB0.out b1⟩
  · rw [goodB_no hgd] at HG
    have HV : Hid (okG (NumOk s l k) = false) := okG_no fun h => hgd h.1
    clear hgd
    go_enter Try.func74, Try.ntmps74
    go_wp2_with fail
    refine HG.out.mono ?_
    rintro e w1 ⟨rfl, b1⟩
    go_wp2_with fail
    go_ret
    exact ⟨ret_bool HV.out.symm, btrans HB0.out b1⟩
set_option maxHeartbeats 2000000 in
set_option maxRecDepth 100000 in
theorem spreadIn_any (n r c : Nat) (v : Value) (l : List Ed) (w : World) (h : Nums w v (clos l n)) (hg : P2.Good (n : Int) l) (hn : n ≤ 8) (hc : c < 2 ^ n) :
    Calls Try.prog 77 #[v, .int .u64 (c : Int), .int .i64 (r : Int)] w fun e w' => spN n l r c < 2 ^ n ∧ e = .returned (.int .u64 (spN n l r c : Int)) ∧ w = w' := by
  obtain ⟨A, cc, rfl, hcl⟩ := h.form
  have HCL := Lib.hid hcl
  have HG := Lib.hid hg
  have hlen := clos_len l n
  rw [hlen]
  have HHS := Lib.hid (fun (d k : Nat) (hd : d < 256) (hk : k ≤ 8) => has_any d k w (by omega) hk)
  have HCT := Lib.hid (fun (d : Nat) (hd : d < 256) => count_any d w hd)
  have H0 : Hid (Spr n l r c c) := Spr.base
  have HC := Lib.hid hc
  have hp8 := pow_le hn
  have ho8 := ones_le c
  have HP8 := Lib.hid hp8
  clear h hcl hg hlen hc hp8
  go_enter Try.func77, Try.ntmps77
  go_wp2_with fail
  go_step3
  go_wp2_with fail
  go_step3
  go_wp2_with fail
  go_loopg [1] 8 (fun g sv wr => ∃ d : Nat, sv = .int .u64 (d : Int) ∧ Hid (Spr n l r c d) ∧ 8 ≤ onesN d + g ∧ wr = w)
  case atStart => exact ⟨c, rfl, H0, by omega, rfl⟩
  case round =>
    clear H0 ho8
    obtain ⟨d, rfl, hsp, hmeas, rfl⟩ := hrel
    have HDN := Lib.hid (spr_lt hsp.out HC.out)
    have hd256 : d < 256 := Nat.lt_of_lt_of_le HDN.out HP8.out
    have HK0 : Hid (∀ j, j < 0 → ¬ AddS n l r d j) := fun j hj => by omega
    obtain ⟨gO, hgO⟩ : ∃ gO, gO = gk := ⟨_, rfl⟩
    subst hgO
    go_wp2_with fail
    go_loopg [1, 11] n (fun g sv iv wx => ∃ k : Nat, k + g = n ∧ sv = .int .u64 (d : Int) ∧ iv = .int .i64 (k : Int) ∧ Hid (∀ j, j < k → ¬ AddS n l r d j) ∧ wx = wr)
    case atStart => exact ⟨0, by omega, rfl, rfl, HK0, rfl⟩
    case round =>
      clear HK0
      obtain ⟨k, hkg, rfl, rfl, hno, rfl⟩ := hrel
      cases gk with
      | zero =>
        obtain rfl : k = n := by omega
        have HV : Hid (spN k l r c = d) := spN_is hsp.out (fun x hx => hno.out x hx.1 hx)
        go_wp2_with fail
        rw [Exit.noGoto_ret]
        go_ret
        rw [HV.out]
        exact ⟨HDN.out, rfl, rfl⟩
      | succ g2 =>
        have hlt : k < n := by omega
        have hlt' : (k : Int) < (n : Int) := by omega
        have hk8 : k ≤ 8 := by omega
        obtain ⟨g5, o5, rfl, c0⟩ := HCL.out k _ (clos_at hlt)
        have hcb := cloB_lt' HG.out k (by omega)
        have hand := bits_and_u64_nat (cloB l k) d (by omega) (by omega)
        have hab : cloB l k &&& d < 256 := Nat.lt_of_le_of_lt Nat.and_le_right hd256
        have hor := or_walk d k hd256 hk8
        have HH := Lib.hid (HHS.out d k hd256 hk8)
        have HCC := Lib.hid (HCT.out (cloB l k &&& d) hab)
        cases hb : d.testBit k with
        | true =>
          have HK : Hid (∀ j, j < k + 1 → ¬ AddS n l r d j) := fun j hj => by
            by_cases e : j = k
            · subst e; exact fun h_ => by have := h_.2.1; rw [hb] at this; cases this
            · exact hno.out j (by omega)
          rw [hb] at HH
          clear hb hand hor hab HCC
          go_wp2_with fail
          refine HH.out.mono ?_
          rintro e w' ⟨rfl, rfl⟩
          go_wp2_with fail
          go_roundg g2
          case measure => omega
          case rel => exact ⟨k + 1, by omega, rfl, by go_num, HK, rfl⟩
        | false =>
          rw [hb] at HH
          have hins : onesN (cloB l k &&& d) = insN l d k := rfl
          rw [hins] at HCC
          by_cases hr : r ≤ insN l d k
          · have HA : Hid (AddS n l r d k) := ⟨hlt, hb, hr⟩
            have HON := Lib.hid (ones_put hd256 (show k < 8 by omega) hb)
            have hr' : (r : Int) ≤ (insN l d k : Int) := by omega
            have hle := ones_le (d ||| 2 ^ k)
            have HME : Hid (onesN d + 1 ≤ 8) := by have := HON.out; show _ ≤ _; omega
            clear hb hab hins hle
            generalize insN l d k = q at *
            generalize cloB l k &&& d = y1 at *
            generalize cloB l k = y2 at *
            go_wp2_with fail
            refine HH.out.mono ?_
            rintro e w' ⟨rfl, rfl⟩
            go_wp2_with fail
            refine HCC.out.mono ?_
            rintro e w' ⟨rfl, rfl⟩
            go_wp2_with fail
            go_roundg (gO - 1)
            case measure => have := HME.out; omega
            case rel => exact ⟨d ||| 2 ^ k, by rfl, Spr.step hsp.out HA.out, by have := HON.out; have := HME.out; omega, rfl⟩
          · have HK : Hid (∀ j, j < k + 1 → ¬ AddS n l r d j) := fun j hj => by
              by_cases e : j = k
              · subst e; exact fun h_ => hr h_.2.2
              · exact hno.out j (by omega)
            have hr' : ¬ (r : Int) ≤ (insN l d k : Int) := by omega
            clear hb hab hins hor
            generalize insN l d k = q at *
            generalize cloB l k &&& d = y1 at *
            generalize cloB l k = y2 at *
            go_wp2_with fail
            refine HH.out.mono ?_
            rintro e w' ⟨rfl, rfl⟩
            go_wp2_with fail
            refine HCC.out.mono ?_
            rintro e w' ⟨rfl, rfl⟩
            go_wp2_with fail
            go_roundg g2
            case measure => omega
            case rel => exact ⟨k + 1, by omega, rfl, by go_num, HK, rfl⟩
theorem code_set {n : Nat} {l : List Ed} {xs : List Int} (h : SetOk (n : Int) l xs) : codeL xs < 2 ^ n := code_lt (m := n) h.2.1
/-- the nodes of a neighborhood that are not in a set -/
def outN (l : List Ed) (n d x : Nat) : Nat := numOf (fun z => (cloB l x).testBit z && !d.testBit z) n
theorem num_bits {n g : Nat} (hg : g < 2 ^ n) : numOf (bitB g) n = g := by
  apply Nat.eq_of_testBit_eq
  intro i
  rw [numOf_bit]
  unfold bitB
  by_cases hi : i < n
  · simp [hi]
  · rw [decide_eq_false hi, Bool.false_and, Nat.testBit_lt_two_pow (Nat.lt_of_lt_of_le hg (Nat.pow_le_pow_right (by decide) (by omega)))]
theorem out_walk {n d x : Nat} {l : List Ed} (hg : P2.Good (n : Int) l) (hn : n ≤ 8) (hd : d < 2 ^ n) (hx : x < n) : bits .andNot .u64 (cloB l x : Int) (d : Int) = (outN l n d x : Int) := by
  have h1 := cloB_lt' hg x (by omega)
  have h2 := andNot_num (cloB l x) (bitB d) n (by omega) hn (fun z => (cloB l x).testBit z && !d.testBit z) (fun z _ => by
    unfold bitB
    by_cases hz : z < n
    · simp [hz]
    · have : (cloB l x).testBit z = false := by
        rw [cloB_bit hg, Bool.or_eq_false_iff]
        refine ⟨by simp; omega, ?_⟩
        cases ha : adj l (x : Int) (z : Int) with
        | false => rfl
        | true => have := (adj_node hg ha).2; omega
      simp [this])
  rw [num_bits hd] at h2
  exact h2
/-- each node of the set has less than r neighbors that are not in it -/
def stoB (l : List Ed) (n r d : Nat) (x : Int) : Bool := decide (r ≤ onesN (outN l n d x.toNat))
def StP (s : Int) (l : List Ed) (xs : List Int) (r : Int) : Prop := SpOk s l xs r ∧ 0 < xs.length ∧ xs.any (stoB l s.toNat r.toNat (codeL xs)) = false
end Go.Proofs.Ytjcnngnahijceaa.ups
