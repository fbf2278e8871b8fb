/- Capture proofs: the contract of the program's IsCaptureProof. -/
import Derived.Handy
import Derived.Test.YtjcnngnahijceaaC04
import Derived.Test.YtjcnngnahijceaaC05
import Derived.Test.YtjcnngnahijceaaC06
import Derived.Test.YtjcnngnahijceaaIdx
import Derived.Deep.DeepCutAuto
import Derived.Deep.RegionHeld3
import Derived.Deep.QuietTactic
import Derived.Test.YtjcnngnahijceaaGridL
import Derived.Test.YtjcnngnahijceaaGridW
import Derived.Test.YtjcnngnahijceaaOwn
import Derived.Test.YtjcnngnahijceaaProg
import Derived.Test.YtjcnngnahijceaaWords
import Derived.Deep.Slices
import Derived.Lib.SmallJoins
import Derived.OpenShut
import Derived.Test.YtjcnngnahijceaaGridR
import Derived.Test.YtjcnngnahijceaaRows
import Derived.ProofKit
import Derived.ChangeOld
import Derived.Carry
namespace Go.Proofs.Ytjcnngnahijceaa.cpfs
open Go.RowKit P2 words edges ints good adjs fns sets rets covs bitsI bags gridr mids grid reps apps times lists balls cops func
set_option linter.unusedVariables false

theorem rws_grid {P n : Nat} {tb : List (List Int)} (h : RwsP P n tb) : gridG P n (tbF tb) = tb := by
  apply List.ext_getElem?
  intro i
  by_cases hi : i < P
  · rw [gridG_at hi]
    obtain ⟨r, hr⟩ : ∃ r, tb[i]? = some r := ⟨_, List.getElem?_eq_getElem (by rw [h.1]; exact hi)⟩
    rw [hr]
    congr 1
    have hrl := h.2 r (List.mem_of_getElem? hr)
    apply List.ext_getElem?
    intro j
    by_cases hj : j < n
    · rw [rowG_at hj]
      unfold tbF
      rw [show tb.getD i [] = r from by rw [List.getD_eq_getElem?_getD, hr]; rfl, List.getD_eq_getElem?_getD, List.getElem?_eq_getElem (by omega)]
      rfl
    · rw [List.getElem?_eq_none (by rw [rowG_len]; omega), List.getElem?_eq_none (by omega)]
  · rw [List.getElem?_eq_none (by rw [gridG_len]; omega), List.getElem?_eq_none (by rw [h.1]; omega)]
theorem low_no {G : Game} {T : Nat → Nat → Int} {l : List Ed} {p r : Nat} (h : prvB G T l p r = true) : -1 ≤ T p r := by
  refine Classical.byContradiction fun hno => ?_
  rw [prv_low (by omega)] at h; cases h
theorem rws_tb {P n : Nat} {tb : List (List Int)} (h : RwsP P n tb) (hlow : ∀ p, p < P → ∀ r, r < n → -1 ≤ tbF tb p r) : TbP P n tb :=
  ⟨h.1, fun q hq => ⟨h.2 q hq, fun y hy => by
    obtain ⟨p, hp⟩ := List.getElem?_of_mem hq
    obtain ⟨r, hr⟩ := List.getElem?_of_mem hy
    rw [← tb_at hp hr]
    exact hlow p (by rw [← h.1]; exact (List.getElem?_eq_some_iff.1 hp).1) r (by rw [← h.2 q hq]; exact (List.getElem?_eq_some_iff.1 hr).1)⟩⟩
/-- what the program's walk finds is what is asked -/
theorem cap_yes {n k : Nat} {l : List Ed} {tb : List (List Int)} (h : RwsP (gameN l n k).P n tb) (hall : ∀ p, p < (gameN l n k).P → ∀ r, r < n → prvB (gameN l n k) (tbF tb) l p r = true) {wh : Bool} (hw : wh = true ↔ ∃ p, p < (gameN l n k).P ∧ ∀ r, r < n → tbF tb p r ≠ -1) : okG (CapN n l k tb) = wh := by
  have hlow := fun p hp r hr => low_no (hall p hp r hr)
  have hpr : ∀ p, p < (gameN l n k).P → ∀ r, r < n → PrvP (gameN l n k) (tbF tb) l p r := fun p hp r hr => (prv_iff (hlow p hp r hr)).1 (hall p hp r hr)
  cases wh with
  | true =>
    obtain ⟨p, hp, hh⟩ := hw.1 rfl
    exact okG_yes ⟨rws_tb h hlow, hpr, p, hp, fun r hr => by have := hlow p hp r hr; have := hh r hr; omega⟩
  | false =>
    refine okG_no fun hc => ?_
    obtain ⟨p, hp, hh⟩ := hc.2.2
    have := hw.2 ⟨p, hp, fun r hr => by have := hh r hr; omega⟩
    cases this
theorem cap_no {n k p r : Nat} {l : List Ed} {tb : List (List Int)} (hp : p < (gameN l n k).P) (hr : r < n) (h : prvB (gameN l n k) (tbF tb) l p r = false) : okG (CapN n l k tb) = false := okG_no fun hc => by
  have hg := hc.1
  have hq : -1 ≤ tbF tb p r := by
    obtain ⟨q, hq⟩ : ∃ q, tb[p]? = some q := ⟨_, List.getElem?_eq_getElem (by rw [hg.1]; exact hp)⟩
    have h2 := hg.2 q (List.mem_of_getElem? hq)
    obtain ⟨y, hy⟩ : ∃ y, q[r]? = some y := ⟨_, List.getElem?_eq_getElem (by rw [h2.1]; exact hr)⟩
    rw [tb_at hq hy]
    exact h2.2 y (List.mem_of_getElem? hy)
  have := (prv_iff hq).2 (hc.2.1 p hp r hr)
  rw [h] at this; cases this
theorem row_low {tb : List (List Int)} {n p : Nat} {q : List Int} (hq : tb[p]? = some q) (hn : q.length = n) : decide ((-1 : Int) ∈ q) = false ↔ ∀ r, r < n → tbF tb p r ≠ -1 := by
  rw [decide_eq_false_iff_not]
  constructor
  · intro h r hr e
    obtain ⟨y, hy⟩ : ∃ y, q[r]? = some y := ⟨_, List.getElem?_eq_getElem (by omega)⟩
    rw [tb_at hq hy] at e
    subst e
    exact h (List.mem_of_getElem? hy)
  · intro h hm
    obtain ⟨r, hr⟩ := List.getElem?_of_mem hm
    exact h r (by rw [← hn]; exact (List.getElem?_eq_some_iff.1 hr).1) (tb_at hq hr)
set_option maxHeartbeats 8000000 in
set_option maxRecDepth 100000 in
theorem implCpf_any (s ki : Int) (v : Value) (A2 : Option Addr) (c2 : Nat) (us : List Value) (tb : List (List Int)) (l : List Ed) (w : World) (h : Edges w v l) (hl : l.length ≤ 1048576) (ht : ReadsG w (.slice A2 tb.length c2) us tb) (htl : tb.length ≤ 1048576) (htr : ∀ r ∈ tb, r.length ≤ 1048576) :
    Calls Try.prog 32 #[.agg #[.int .i64 s, v], .int .i64 ki, .slice A2 tb.length c2] w fun e w' => e = .returned (.tuple #[.bool (okG (CapP s l ki tb)), .bool (okG (FieldP s l ki))]) ∧ Below w.heap.size w w' := by
  obtain ⟨A, c, rfl, -⟩ := h.form
  have H := Lib.hid h
  have HT := Lib.hid ht
  have b0 : Below w.heap.size w (w.alloc (.cells #[.int .i64 s, .slice A l.length c] 28)) := (Below.refl _ _).alloc (Nat.le_refl _) _
  have HB0 := Lib.hid b0
  have HG0 := Lib.hid (Blk.new w 28 #[.int .i64 s, .slice A l.length c])
  obtain ⟨p0, p1, -, -⟩ := HG0.out.two
  by_cases hf : FieldP s l ki
  · have HV2 := Lib.hid (okG_yes hf)
    have h8 := hf.1.2.1
    obtain ⟨n, rfl⟩ : ∃ n : Nat, s = (n : Int) := ⟨s.toNat, by have := hf.2.1; omega⟩
    obtain ⟨k, rfl⟩ : ∃ k : Nat, ki = (k : Int) := ⟨ki.toNat, by have := hf.2.2.1; omega⟩
    have hn : n ≤ 8 := by omega
    have HV1 : Hid (okG (CapP (n : Int) l (k : Int) tb) = okG (CapN n l k tb)) := by
      show _ = _
      by_cases hc : CapN n l k tb
      · rw [okG_yes hc]; exact okG_yes ⟨hf, by rw [Int.toNat_natCast, Int.toNat_natCast]; exact hc⟩
      · rw [okG_no hc]; exact okG_no fun h => hc (by have := h.2; rwa [Int.toNat_natCast, Int.toNat_natCast] at this)
    have HHU := Lib.hid (huntIn_yes n k (.slice A l.length c) l _ (h.below b0) hl hf)
    rw [HV1.out, HV2.out]
    clear h ht hf b0 HV1 HV2
    go_enter Try.func32, Try.ntmps32
    go_wp2_with fail
    refine HHU.out.mono ?_
    rintro e w2 ⟨cv, tv, mv, xv, lv, us1, us2, ul, rfl, hC, ⟨Ax, cx, rfl⟩, oX, ⟨Al, cl, rfl⟩, oL, b2⟩
    have HE2 := Lib.hid (btrans HB0.out b2)
    obtain ⟨Ac, cc, rfl, -⟩ := hC.closed.form
    obtain ⟨At, ct, rfl, -⟩ := hC.taken.form
    obtain ⟨Am, cm, rfl, -⟩ := hC.lists.1
    have HC := Lib.hid hC
    have hz1 : Hid ((clos l (gameN l n k).n).length = n) := clos_len l n
    have hz2 : Hid ((codesL (gameN l n k).P (gameN l n k).n (gameN l n k).tk).length = (gameN l n k).P) := codesL_len _ _ _
    clear hC oX oL b2 HHU HB0 HG0 p0 p1
    generalize (gridG (gameN l n k).P n (tms (gameN l n k))).length = xl at *
    generalize (rowsN (listsN n k 0)).length = yl at *
    generalize (mvG l n k).length = z3 at *
    rw [hz1.out, hz2.out] at HC ⊢
    clear hz1 hz2
    have b3 : Below w2.heap.size w2 (w2.alloc (.cells #[.slice Ac n cc, .slice At (gameN l n k).P ct, .slice Am z3 cm, .slice Ax xl cx, .slice Al yl cl] 97)) := (Below.refl _ _).alloc (Nat.le_refl _) _
    have HK3 := Lib.hid (Blk.new w2 97 #[.slice Ac n cc, .slice At (gameN l n k).P ct, .slice Am z3 cm, .slice Ax xl cx, .slice Al yl cl])
    have HB3 := Lib.hid b3
    have HHR := Lib.hid (hasRows_any (gameN l n k).P n cc ct Ac At (.slice Am z3 cm) (.slice Ax xl cx) (.slice A2 tb.length c2) us tb _ ⟨_, _, _, rfl⟩ ⟨_, _, _, rfl⟩ (HT.out.below (btrans HE2.out b3)) htl)
    obtain ⟨k0, k1, k2, k3, k4⟩ := blk5 HK3.out
    clear b3
    by_cases hrw : RwsP (gameN l n k).P n tb
    · rw [okG_yes hrw] at HHR
      have HRW := Lib.hid hrw
      have HGR := Lib.hid (rws_grid hrw)
      have hlen := hrw.1
      have HLEN := Lib.hid hlen
      have hP := HC.out.small
      have htl2 : tb.length ≤ 200 := by omega
      have HI0 : Hid (∀ q, q < 0 → ∀ r, r < n → prvB (gameN l n k) (tbF tb) l q r = true) := fun q hq => by omega
      have HW0 : Hid (false = true ↔ ∃ q, q < 0 ∧ ∀ r, r < n → tbF tb q r ≠ -1) := by
        refine ⟨fun h => (by cases h), ?_⟩
        rintro ⟨p, hp, _⟩
        omega
      have HPV := Lib.hid (fun (W : World) (hW : Below w2.heap.size w2 W) (p r : Nat) (hp : p < (gameN l n k).P) (hr : r < n) => isProven_any n k p r (tbF tb) l (.slice Ac n cc) (.slice At (gameN l n k).P ct) (.slice Am z3 cm) (.slice Ax xl cx) (.slice A2 tb.length c2) us1 us W (HC.out.below hW) ⟨_, _, _, rfl⟩ (by rw [HGR.out]; exact HT.out.below (btrans HE2.out hW)) hn hp hr)
      clear hrw hlen hP
      go_wp2_with fail
      refine HHR.out.mono ?_
      rintro e w4 ⟨rfl, b4⟩
      have HD4 := Lib.hid (btrans HB3.out b4)
      have HK4 := Lib.hid (HK3.out.below b4 HK3.out.lt)
      clear b4 k0 k1 k2 k3 k4 HHR HB3 HK3
      go_wp2_with fail
      go_loopg [10, 32] tb.length (fun g wv iv wr => ∃ (p : Nat) (wh : Bool), p + g = tb.length ∧ wv = .bool wh ∧ iv = .int .i64 (p : Int) ∧ Hid (∀ q, q < p → ∀ r, r < n → prvB (gameN l n k) (tbF tb) l q r = true) ∧ Hid (wh = true ↔ ∃ q, q < p ∧ ∀ r, r < n → tbF tb q r ≠ -1) ∧ Blk wr w2.heap.size 97 #[.slice Ac n cc, .slice At (gameN l n k).P ct, .slice Am z3 cm, .slice Ax xl cx, .slice Al yl cl] ∧ Below w2.heap.size w2 wr)
      case atStart => exact ⟨0, false, by omega, rfl, rfl, HI0, HW0, HK4.out, HD4.out⟩
      case round =>
        clear HI0 HW0 HK4 HD4
        obtain ⟨p, wh, hpg, rfl, rfl, hall, hwh, hbk, hby⟩ := hrel
        have HBK := Lib.hid hbk
        have HBY := Lib.hid hby
        cases gk with
        | zero =>
          obtain rfl : p = tb.length := by omega
          have HV3 : Hid (okG (CapN n l k tb) = wh) := cap_yes HRW.out (fun q hq => hall.out q (by rw [HLEN.out]; exact hq)) (by rw [hwh.out, HLEN.out])
          have HEF := Lib.hid (btrans HE2.out hby)
          clear hbk hby
          go_wp2_with fail
          go_ret2
          rw [HV3.out]
          exact ⟨rfl, HEF.out⟩
        | succ g2 =>
          have hlt : p < tb.length := by omega
          have hlt' : (p : Int) < (tb.length : Int) := by omega
          have HPP : Hid (p < (gameN l n k).P) := by show p < _; rw [← HLEN.out]; exact hlt
          obtain ⟨r, hr⟩ : ∃ r, tb[p]? = some r := ⟨_, List.getElem?_eq_getElem hlt⟩
          obtain ⟨u, g5, o5, hu, rfl, q5, hri⟩ := HT.out.row hr
          obtain ⟨A7, c7, rfl, -⟩ := hri.form
          have hrl := HRW.out.2 r (List.mem_of_getElem? hr)
          have HRL := Lib.hid hrl
          have hr8 : r.length ≤ 8 := by omega
          have HRI := Lib.hid hri
          have HLW := Lib.hid (row_low hr hrl)
          have q6 := nearv.cell_keep q5 (btrans HE2.out hby)
          have HJ0 : Hid (∀ y, y < 0 → prvB (gameN l n k) (tbF tb) l p y = true) := fun y hy => by omega
          clear hr hu q5 hri hbk hby hrl
          go_wp2_with fail
          clear q6
          obtain ⟨wo, hwo⟩ : ∃ wo, wo = wr := ⟨_, rfl⟩
          clear hwo
          go_loopg [39] r.length (fun g xv wr => ∃ x : Nat, x + g = r.length ∧ xv = .int .i64 (x : Int) ∧ Hid (∀ y, y < x → prvB (gameN l n k) (tbF tb) l p y = true) ∧ Blk wr w2.heap.size 97 #[.slice Ac n cc, .slice At (gameN l n k).P ct, .slice Am z3 cm, .slice Ax xl cx, .slice Al yl cl] ∧ Below w2.heap.size w2 wr)
          case atStart => exact ⟨0, by omega, rfl, HJ0, HBK.out, HBY.out⟩
          case round =>
            clear HJ0 HBK HBY
            obtain ⟨x, hxg, rfl, hno, hbk, hby⟩ := hrel
            have HBK := Lib.hid hbk
            have HBY := Lib.hid hby
            cases gk with
            | zero =>
              obtain rfl : x = r.length := by omega
              have HAN : Hid (∀ q, q < p + 1 → ∀ y, y < n → prvB (gameN l n k) (tbF tb) l q y = true) := fun q hq y hy => by
                by_cases e : q = p
                · subst e; exact hno.out y (by rw [HRL.out]; exact hy)
                · exact hall.out q (by omega) y hy
              have HCO := Lib.hid (idx.contains_any (.slice A7 r.length c7) r (-1) wr (HRI.out.below (btrans HE2.out hby)) (by omega))
              clear hbk hby
              cases hwv : wh with
              | true =>
                have HWE : Hid (∃ q, q < p + 1 ∧ ∀ y, y < n → tbF tb q y ≠ -1) := by
                  obtain ⟨q, hq, hh⟩ := hwh.out.1 hwv
                  exact ⟨q, by omega, hh⟩
                clear hwv
                go_wp2_with fail
                go_roundg g2
                case measure => omega
                case rel => exact ⟨p + 1, true, by omega, rfl, by go_num, HAN, ⟨fun _ => HWE.out, fun _ => rfl⟩, HBK.out, HBY.out⟩
              | false =>
                have HWN : Hid ((!decide ((-1 : Int) ∈ r)) = true ↔ ∃ q, q < p + 1 ∧ ∀ y, y < n → tbF tb q y ≠ -1) := by
                  show _ ↔ _
                  rw [Bool.not_eq_true', HLW.out]
                  constructor
                  · intro hh; exact ⟨p, by omega, hh⟩
                  · rintro ⟨q, hq, hh⟩
                    by_cases e : q = p
                    · subst e; exact hh
                    · have := hwh.out.2 ⟨q, by omega, hh⟩
                      rw [hwv] at this; cases this
                clear hwv
                generalize decide ((-1 : Int) ∈ r) = db at *
                go_wp2_with fail
                refine HCO.out.mono ?_
                rintro e w' ⟨rfl, rfl⟩
                go_wp2_with fail
                go_roundg g2
                case measure => omega
                case rel => exact ⟨p + 1, !db, by omega, rfl, by go_num, HAN, HWN, HBK.out, HBY.out⟩
            | succ g3 =>
              have hxl : x < r.length := by omega
              have hxl' : (x : Int) < (r.length : Int) := by omega
              have HXN : Hid (x < n) := by show x < n; rw [← HRL.out]; exact hxl
              have HPX := Lib.hid (HPV.out wr hby p x HPP.out HXN.out)
              obtain ⟨k0, k1, k2, k3, k4⟩ := blk5 hbk
              clear hbk hby
              cases hb : prvB (gameN l n k) (tbF tb) l p x with
              | true =>
                have HNX : Hid (∀ y, y < x + 1 → prvB (gameN l n k) (tbF tb) l p y = true) := fun y hy => by
                  by_cases e : y = x
                  · subst e; exact hb
                  · exact hno.out y (by omega)
                rw [hb] at HPX
                clear hb
                go_wp2_with fail
                refine HPX.out.mono ?_
                rintro e w5 ⟨rfl, b5⟩
                have HB5 := Lib.hid (btrans HBY.out b5)
                have HK5 := Lib.hid (HBK.out.below b5 HBK.out.lt)
                clear b5 k0 k1 k2 k3 k4
                go_wp2_with fail
                go_roundg g3
                case measure => omega
                case rel => exact ⟨x + 1, by omega, by go_num, HNX, HK5.out, HB5.out⟩
              | false =>
                have HV3 := Lib.hid (cap_no HPP.out HXN.out hb)
                rw [hb] at HPX
                clear hb
                go_wp2_with fail
                refine HPX.out.mono ?_
                rintro e w5 ⟨rfl, b5⟩
                have HEF := Lib.hid (btrans HE2.out (btrans HBY.out b5))
                clear b5 k0 k1 k2 k3 k4
                go_wp2_with fail
                first | go_ret2 | (rw [Exit.noGoto_ret]; go_ret2)
                rw [HV3.out]
                exact ⟨rfl, HEF.out⟩
    · rw [okG_no hrw] at HHR
      have HV3 : Hid (okG (CapN n l k tb) = false) := okG_no fun hc => hrw ⟨hc.1.1, fun q hq => (hc.1.2 q hq).1⟩
      clear hrw
      go_wp2_with fail
      refine HHR.out.mono ?_
      rintro e w4 ⟨rfl, b4⟩
      have HEF := Lib.hid (btrans HE2.out (btrans HB3.out b4))
      clear b4 k0 k1 k2 k3 k4
      go_wp2_with fail
      go_ret2
      rw [HV3.out]
      exact ⟨rfl, HEF.out⟩
  · have HHU := Lib.hid (huntIn_no s ki (.slice A l.length c) l _ (h.below b0) hl hf)
    have HV2 := Lib.hid (okG_no hf)
    have HV1 : Hid (okG (CapP s l ki tb) = false) := okG_no fun hc => hf hc.1
    rw [HV1.out, HV2.out]
    clear h ht hf b0
    go_enter Try.func32, Try.ntmps32
    go_wp2_with fail
    refine HHU.out.mono ?_
    rintro e w1 ⟨rfl, b1⟩
    have HE1 := Lib.hid (btrans HB0.out b1)
    clear p0 p1 b1
    go_wp2_with fail
    go_ret2
    exact ⟨rfl, HE1.out.alloc HE1.out.size _⟩
end Go.Proofs.Ytjcnngnahijceaa.cpfs

/- The laws' helpers over arguments of type [][]int: szIntS, szIntSS, toIntSS. -/
namespace Go.Proofs.Ytjcnngnahijceaa.gridl
open Go.RowKit P2 words ints grid gridr owns
set_option linter.unusedVariables false

def szS (left m : Int) : Int := if left - m < 0 then -1 else left - m
/-- what is left of a budget behind a slice of slices, -1 if it is used up -/
def szSS (left : Int) (rows : List (List Int)) : Int := if left - (rows.length : Int) < 0 then -1 else szS (left - (rows.length : Int)) (tot rows : Int)
set_option maxHeartbeats 400000 in
theorem szIntS_any (v : Value) (l : List Int) (left : Int) (w : World) (h : Ints w v l) (h0 : 0 ≤ left) (h1 : left ≤ 1048576) (hl : (l.length : Int) ≤ 9223372036854775807) :
    Calls Try.prog 80 #[v, .int .i64 left] w fun e w' => e = .returned (.int .i64 (szS left (l.length : Int))) ∧ w = w' := by
  obtain ⟨A, c, rfl, -⟩ := h.form
  clear h
  have hw : IntKind.i64.wrap (left - (l.length : Int)) = left - (l.length : Int) := IntWalk.i64_in _ (by omega)
  by_cases hn : left - (l.length : Int) < 0
  · have HV : Hid (szS left (l.length : Int) = -1) := by show _ = _; unfold szS; rw [if_pos hn]
    go_enter Try.func80, Try.ntmps80
    go_wp2_with fail
    go_ret
    exact ⟨ret_int HV.out.symm, rfl⟩
  · have HV : Hid (szS left (l.length : Int) = left - (l.length : Int)) := by show _ = _; unfold szS; rw [if_neg hn]
    go_enter Try.func80, Try.ntmps80
    go_wp2_with fail
    go_ret
    exact ⟨ret_int HV.out.symm, rfl⟩
set_option maxHeartbeats 1000000 in
theorem szIntSS_any (v : Value) (us : List Value) (rows : List (List Int)) (left : Int) (w : World) (h : ReadsG w v us rows) (h0 : 0 ≤ left) (h1 : left ≤ 1048576) (hl : (rows.length : Int) ≤ 9223372036854775807) (hr : ∀ r ∈ rows, (r.length : Int) ≤ 9223372036854775807) :
    Calls Try.prog 29 #[v, .int .i64 left] w fun e w' => e = .returned (.int .i64 (szSS left rows)) ∧ w = w' := by
  obtain ⟨A, c, rfl, -⟩ := h.1
  have H := Lib.hid h
  have HR := Lib.hid hr
  clear h hr
  have hw : IntKind.i64.wrap (left - (rows.length : Int)) = left - (rows.length : Int) := IntWalk.i64_in _ (by omega)
  by_cases hn : left - (rows.length : Int) < 0
  · have HV : Hid (szSS left rows = -1) := by show _ = _; unfold szSS; rw [if_pos hn]
    go_enter Try.func29, Try.ntmps29
    go_wp2_with fail
    go_ret
    exact ⟨ret_int HV.out.symm, rfl⟩
  · have HV : Hid (szSS left rows = szS (left - (rows.length : Int)) (tot rows : Int)) := by show _ = _; unfold szSS; rw [if_neg hn]
    go_enter Try.func29, Try.ntmps29
    go_wp2_with fail
    go_loopg [1, 5] rows.length (fun g lv iv wr => ∃ (k : Nat) (b : Int), k + g = rows.length ∧ iv = .int .i64 (k : Int) ∧ lv = .int .i64 b ∧ Hid (b = left - (rows.length : Int) - (tot (rows.take k) : Int) ∧ 0 ≤ b) ∧ w = wr)
    case atStart => exact ⟨0, _, by omega, rfl, rfl, (by show _ ∧ _; simp [tot]; omega), rfl⟩
    case round =>
      obtain ⟨k, b, hkg, rfl, rfl, hb, rfl⟩ := hrel
      cases gk with
      | zero =>
        obtain rfl : k = rows.length := by omega
        have HB : Hid (szSS left rows = b) := by
          show _ = _
          have := hb.out
          rw [HV.out]
          unfold szS
          rw [List.take_length] at this
          rw [if_neg (by omega)]; omega
        go_wp2_with fail
        go_ret
        exact ⟨ret_int HB.out.symm, rfl⟩
      | succ g2 =>
        have hlt : k < rows.length := by omega
        have hlt' : (k : Int) < (rows.length : Int) := by omega
        obtain ⟨r, hrk⟩ : ∃ r, rows[k]? = some r := ⟨_, List.getElem?_eq_getElem hlt⟩
        obtain ⟨u, g, o, hu, rfl, c0, hru⟩ := H.out.row hrk
        have hrl := HR.out r (List.mem_of_getElem? hrk)
        have ht := tot_succ hrk
        have hle := tot_le rows (k + 1)
        have hb0 := hb.out
        have HSZ := Lib.hid (szIntS_any u r b w hru (by omega) (by omega) hrl)
        by_cases hneg : b - (r.length : Int) < 0
        · have HS1 : Hid (szS b (r.length : Int) = -1) := by show _ = _; unfold szS; rw [if_pos hneg]
          have HB : Hid (szSS left rows = -1) := by
            show _ = _
            rw [HV.out]
            unfold szS
            rw [if_pos (by omega)]
          rw [HS1.out] at HSZ
          clear hu hru hrk ht hle hb0
          go_wp2_with fail
          refine HSZ.out.mono ?_
          rintro e w' ⟨rfl, rfl⟩
          go_wp2_with fail
          go_ret
          exact ⟨ret_int HB.out.symm, rfl⟩
        · have HS1 : Hid (szS b (r.length : Int) = b - (r.length : Int)) := by show _ = _; unfold szS; rw [if_neg hneg]
          have HB : Hid (b - (r.length : Int) = left - (rows.length : Int) - (tot (rows.take (k + 1)) : Int) ∧ 0 ≤ b - (r.length : Int)) := by
            show _ ∧ _
            omega
          rw [HS1.out] at HSZ
          clear hu hru hrk ht hle hb0
          generalize b - (r.length : Int) = b2 at *
          go_wp2_with fail
          refine HSZ.out.mono ?_
          rintro e w' ⟨rfl, rfl⟩
          have hb2 : ¬ b2 < 0 := by have := HB.out; omega
          go_wp2_with fail
          go_roundg g2
          case measure => omega
          case rel => exact ⟨k + 1, b2, by omega, by go_num, rfl, HB, rfl⟩
/-- the budget is enough -/
theorem szIntSS_yes (v : Value) (us : List Value) (rows : List (List Int)) (left : Int) (w : World) (h : ReadsG w v us rows) (h0 : 0 ≤ left) (h1 : left ≤ 1048576) (hl : (rows.length : Int) + (tot rows : Int) ≤ left) :
    Calls Try.prog 29 #[v, .int .i64 left] w fun e w' => e = .returned (.int .i64 (left - (rows.length : Int) - (tot rows : Int))) ∧ Below w.heap.size w w' :=
  (szIntSS_any v us rows left w h h0 h1 (by omega) (fun r hr => by
    obtain ⟨k, hk⟩ := List.getElem?_of_mem hr
    have := tot_succ hk
    have := tot_le rows (k + 1)
    omega)).mono fun _ _ ⟨e, hw⟩ => ⟨by rw [e]; unfold szSS szS; rw [if_neg (by omega), if_neg (by omega)], hw ▸ Below.refl _ _⟩
/-- it is not -/
theorem szIntSS_no (v : Value) (us : List Value) (rows : List (List Int)) (left : Int) (w : World) (h : ReadsG w v us rows) (h0 : 0 ≤ left) (h1 : left ≤ 1048576) (hl : (rows.length : Int) ≤ 9223372036854775807) (hr : ∀ r ∈ rows, (r.length : Int) ≤ 9223372036854775807) (hn : left < (rows.length : Int) + (tot rows : Int)) :
    Calls Try.prog 29 #[v, .int .i64 left] w fun e w' => e = .returned (.int .i64 (-1)) ∧ Below w.heap.size w w' :=
  (szIntSS_any v us rows left w h h0 h1 hl hr).mono fun _ _ ⟨e, hw⟩ => ⟨by
    rw [e]; unfold szSS szS
    by_cases h2 : left - (rows.length : Int) < 0
    · rw [if_pos h2]
    · rw [if_neg h2, if_pos (by omega)], hw ▸ Below.refl _ _⟩
/-- a copy in the making -/
def cpR (rows : List (List Int)) (k : Nat) : List (List Int) := rows.take k ++ List.replicate (rows.length - k) []
theorem cpR_len (rows : List (List Int)) {k : Nat} (h : k ≤ rows.length) : (cpR rows k).length = rows.length := by simp [cpR]; omega
theorem cpR_zero (rows : List (List Int)) : cpR rows 0 = List.replicate rows.length [] := by simp [cpR]
theorem cpR_all (rows : List (List Int)) : cpR rows rows.length = rows := by simp [cpR]
theorem cpR_succ {rows : List (List Int)} {k : Nat} {r : List Int} (h : rows[k]? = some r) : (cpR rows k).set k r = cpR rows (k + 1) := by
  have hk := (List.getElem?_eq_some_iff.1 h).1
  unfold cpR
  rw [show rows.length - k = (rows.length - (k + 1)) + 1 from by omega, List.replicate_succ, List.set_append_right _ _ (by rw [List.length_take]; omega), List.take_add_one, h]
  have e : k - (List.take k rows).length = 0 := by simp; omega
  rw [e, List.set_cons_zero, List.append_assoc]
  rfl
set_option maxHeartbeats 2000000 in
set_option maxRecDepth 100000 in
theorem toIntSS_any (v : Value) (us : List Value) (rows : List (List Int)) (w : World) (h : ReadsG w v us rows) (hl : tot rows ≤ 1048576) (hn : rows.length ≤ 1048576) :
    Calls Try.prog 31 #[v] w fun e w' => ∃ A c us', e = .returned (.slice A rows.length c) ∧ OwnG w' w.heap.size (.slice A rows.length c) us' rows ∧ Below w.heap.size w w' := by
  obtain ⟨A, c, rfl, -⟩ := h.1
  obtain ⟨i1, hi1, hy0, hy1, hy2⟩ := info_parts infoRow
  have hmk := fun (W : World) => run_make_rowN (P := Try.prog) 42 32 i1 (.slice none 0 0) Try.underlying42 hi1 hy0 .i64 .i64 rows.length rows.length (Nat.le_refl _) (by rw [hy2]; omega) (by omega) W
  rw [hy1] at hmk
  simp only [Nat.mul_one] at hmk
  have H := Lib.hid h
  have HM := Lib.hid (OwnG.made w rows.length (by unfold maxLen; omega))
  rw [Nat.mul_one, ← cpR_zero] at HM
  have HE := Lib.hid ((Below.refl w.heap.size w).alloc (Nat.le_refl _) (.cells (madeCells #[.slice none 0 0] rows.length) 32))
  clear h
  go_enter Try.func31, Try.ntmps31
  go_wp2_with fail
  clear hmk
  go_loopg [4] rows.length (fun g iv wr => ∃ (k : Nat) (vs : List Value), k + g = rows.length ∧ iv = .int .i64 (k : Int) ∧ OwnG wr w.heap.size (.slice (some ⟨w.heap.size, 0, none⟩) rows.length rows.length) vs (cpR rows k) ∧ Below w.heap.size w wr)
  case atStart => exact ⟨0, _, by omega, rfl, HM.out, HE.out⟩
  case round =>
    clear HM HE
    obtain ⟨k, vs, hkg, rfl, hG, hB⟩ := hrel
    cases gk with
    | zero =>
      obtain rfl : k = rows.length := by omega
      rw [cpR_all] at hG
      have HG := Lib.hid hG
      have HB := Lib.hid hB
      clear hG hB
      go_wp2_with fail
      go_ret
      exact ⟨_, _, _, rfl, HG.out, HB.out⟩
    | succ g2 =>
      have hlt : k < rows.length := by omega
      have hlt' : (k : Int) < (rows.length : Int) := by omega
      obtain ⟨r, hr⟩ : ∃ r, rows[k]? = some r := ⟨_, List.getElem?_eq_getElem hlt⟩
      obtain ⟨u, g, o, hu, rfl, c0, hru⟩ := (H.out.below hB).row hr
      obtain ⟨Ar, cr, rfl, -⟩ := hru.form
      have hrl : r.length ≤ 1048576 := by have := tot_succ hr; have := tot_le rows (k + 1); omega
      have HT := Lib.hid (fun (W : World) (hW : Below wr.heap.size wr W) => toIntS_any (.slice Ar r.length cr) r W (hru.below hW) hrl)
      have HT0 := Lib.hid (HT.out wr (Below.refl _ _))
      have HRS := Lib.hid (cpR_succ hr)
      have HRL := Lib.hid (cpR_len rows (k := k) (by omega))
      have HG := Lib.hid hG
      have HB := Lib.hid hB
      have HC := Lib.hid c0
      clear hu hru hr hrl hG hB
      go_wp2_with fail
      refine HT0.out.mono ?_
      rintro e w4 ⟨A5, c5, rfl, o5, b5⟩
      have hG4 := HG.out.below b5
      have h1 := hG4.1
      rw [HRL.out] at h1
      have hul := hG4.len
      rw [HRL.out] at hul
      obtain ⟨u0, hu0⟩ : ∃ u, vs[k]? = some u := ⟨_, List.getElem?_eq_getElem (by omega)⟩
      have f0 := h1.cellAt k (by omega)
      rw [hu0] at f0
      have z0 := h1.frozenAt k
      have hgr := h1.lt w.heap.size rfl
      have HS : Hid (OwnG (w4.setCell ⟨w.heap.size, k, none⟩ (.slice A5 r.length c5)) w.heap.size (.slice (some ⟨w.heap.size, 0, none⟩) rows.length rows.length) (vs.set k (.slice A5 r.length c5)) (cpR rows (k + 1))) := by
        have h9 : OwnG w4 w.heap.size (.slice (some ⟨w.heap.size, 0, none⟩) (cpR rows k).length rows.length) vs (cpR rows k) := by rw [HRL.out]; exact hG4
        have hfr := OwnG.fresh HG.out (own_base o5 (Nat.le_refl _))
        have := OwnG.store h9 (by rw [HRL.out]; exact hlt) (own_base o5 (by have := HB.out.size; omega)) (fun i x b _ hx hb => hfr i x b hx hb)
        rw [HRS.out, HRL.out] at this
        exact this
      have HB5 := Lib.hid ((btrans HB.out b5).setCell (p := ⟨w.heap.size, k, none⟩) hgr.1 (.slice A5 r.length c5))
      clear hG4 h1 hul b5 o5 hu0 c0
      go_wp2_with fail
      go_roundg g2
      case measure => omega
      case rel => exact ⟨k + 1, _, by omega, by go_num, HS.out, HB5.out⟩
end Go.Proofs.Ytjcnngnahijceaa.gridl

/- Arguments of the laws, opened: a Graph as it came in, a slice of integers as it came in. -/
namespace Go.Proofs.Ytjcnngnahijceaa.opens
open Go.RowKit Go.Joins Go.ChangeShapes Go.WideShapes Go.Deep P2 words

theorem addr_add (g o j : Nat) : (⟨g, o, none⟩ : Addr).add j = ⟨g, o + j, none⟩ := by unfold Addr.add; split <;> simp_all
theorem add_of_add (a : Addr) (i j : Nat) : (a.add i).add j = a.add (i + j) := by
  unfold Addr.add
  by_cases hi : i = 0 <;> by_cases hj : j = 0 <;> simp [hi, hj, Nat.add_assoc]

/-- what is told of a Graph that came in -/
def IsGr (w : World) (s : Int) (v : Value) (l : List Ed) : Prop :=
  Edges w v l ∧ l.length ≤ maxLen ∧ -9223372036854775808 ≤ s ∧ s ≤ 9223372036854775807

theorem bounds64 {n : Int} (h : (Lit.int .i64 n).wf = true) : -9223372036854775808 ≤ n ∧ n ≤ 9223372036854775807 := by
  simp [Lit.wf, IntKind.min, IntKind.max, IntKind.signed, IntKind.bits] at h
  omega

/-- what is told of a slice of integers that came in -/
def IsIn (w : World) (v : Value) (l : List Int) : Prop := Ints w v l ∧ l.length ≤ maxLen ∧ ∀ x ∈ l, -9223372036854775808 ≤ x ∧ x ≤ 9223372036854775807

section
variable {H : Type} {enc : TypeId × Value → H} {w : World} {spare : Nat → Bool} {held : Bool}
theorem open_edges {fuel : Nat} {v : Value} {x : DataW H × List MemPlace} (h : DataW.trod enc Try.prog w 0 spare held fuel 22 [v] = some x) :
    ∃ l : List Ed, Edges w v l ∧ l.length ≤ maxLen := by
  rcases open_slice Try.underlying22 h with ⟨hv, _⟩ | ⟨a, len, cap, m, n, D, Pl, hv, _, hl, hm, hmm, _, hi⟩
  · obtain rfl : v = .slice none 0 0 := by simpa using hv
    exact ⟨[], Reads.nil _ _, Nat.zero_le _⟩
  · obtain rfl : v = .slice (some a) len cap := by simpa using hv
    have hlm : len ≤ m := by rw [hmm]; split <;> omega
    have hC : Try.prog.cellsOf 119 = 2 := by kernel_rfl
    have hC1 : Try.prog.cellsOf 3 = 1 := by kernel_rfl
    rw [hC] at hi
    have key : ∀ i, i < len → ∃ e : Ed, w.cell? (a.add (i * 2)) = some (.int .i64 e.1) ∧ w.cell? (a.add (i * 2 + 1)) = some (.int .i64 e.2) := fun i hil => by
      obtain ⟨cs', hc, ht⟩ := hi i (by omega)
      obtain ⟨xs, m', _, _, _, hxl, he⟩ := DataW.trod_array Try.underlying119 ht
      obtain ⟨_, hcl, hat⟩ := World.cells?_some hc
      rw [hC1] at he
      match cs', hcl with
      | [c0, c1], _ =>
        match xs, hxl with
        | [y0, y1], _ =>
          have e0 : DataW.trod enc Try.prog w 0 spare held m' 3 [c0] = some y0 := he 0 (by decide)
          have e1 : DataW.trod enc Try.prog w 0 spare held m' 3 [c1] = some y1 := he 1 (by decide)
          obtain ⟨n0, h0, _, _⟩ := DataW.trod_int Try.underlying3 e0
          obtain ⟨n1, h1, _, _⟩ := DataW.trod_int Try.underlying3 e1
          obtain rfl : c0 = .int .i64 n0 := by simpa using h0
          obtain rfl : c1 = .int .i64 n1 := by simpa using h1
          have a0 := hat 0 (by decide)
          have a1 := hat 1 (by decide)
          rw [add_of_add] at a0 a1
          exact ⟨(n0, n1), by simpa using a0, by simpa using a1⟩
    obtain ⟨f, hf⟩ := choose_lt (α := Ed) key
    refine ⟨(List.range len).map f, ⟨some a, cap, by simp, fun hn => ?_⟩, by simp; omega⟩
    simp only [List.length_map, List.length_range] at hn ⊢
    obtain ⟨b, off, spot⟩ := a
    have hc0 := (hf 0 hn).1
    have hspot : spot = none := by simpa [Addr.add] using World.cell?_spot hc0
    subst hspot
    refine ⟨b, off, rfl, hl, fun j u hu => ?_⟩
    have hjl : j < len * 2 := by
      have := (List.getElem?_eq_some_iff.1 hu).1
      rw [cellsE_len] at this; simpa using this
    obtain ⟨k, hk⟩ : ∃ k, k = j / 2 := ⟨_, rfl⟩
    have hkl : k < len := by omega
    have hkf : ((List.range len).map f)[k]? = some (f k) := by simp [hkl]
    have hck := cellsE_at hkf
    have hcl := hf k hkl
    rw [addr_add, addr_add] at hcl
    rcases Nat.mod_two_eq_zero_or_one j with h0 | h0
    · obtain rfl : j = k * 2 := by omega
      rw [hck.1] at hu
      rw [hcl.1, ← hu]
    · obtain rfl : j = k * 2 + 1 := by omega
      rw [hck.2] at hu
      rw [hcl.2, ← hu]

set_option maxRecDepth 100000 in
theorem open_graph {r : Reach} {b0 : Nat} {v : Value} {d : DataW H} {p : List MemPlace} (hv : Value.okWide Try.prog w r b0 24 v)
    (h : DataW.Trod enc Try.prog w 0 spare held 24 v d p) : ∃ s u l, v = .agg #[.int .i64 s, u] ∧ IsGr w s u l := by
  obtain ⟨c0, c1, y0, y1, m, rfl, _, _, h0, h1⟩ := open_agg2 Try.underlying24 (by kernel_rfl) (by kernel_rfl) hv h
  obtain ⟨n0, k0, _, w0⟩ := DataW.trod_int Try.underlying3 h0
  obtain rfl : c0 = .int .i64 n0 := by simpa using k0
  obtain ⟨l, he, hl⟩ := open_edges h1
  exact ⟨n0, c1, l, rfl, he, hl, bounds64 w0⟩

set_option maxRecDepth 100000 in
theorem open_intsl {r : Reach} {b0 : Nat} {v : Value} {d : DataW H} {p : List MemPlace} (hv : Value.okWide Try.prog w r b0 32 v)
    (h : DataW.Trod enc Try.prog w 0 spare held 32 v d p) : ∃ u l, v = u ∧ IsIn w u l := by
  obtain ⟨A, len, cap, rfl⟩ := okWide_slice Try.underlying32 hv
  obtain ⟨fuel, hf⟩ := h
  simp only [Value.cells] at hf
  rcases open_slice Try.underlying32 hf with ⟨hv, _⟩ | ⟨a, len', cap', m, n, D, Pl, hv, _, hl, hm, hmm, _, hi⟩
  · have e : Value.slice A len cap = .slice none 0 0 := by simpa using hv
    rw [e]
    exact ⟨_, [], rfl, Reads.nil _ _, Nat.zero_le _, fun x hx => by cases hx⟩
  · have e : Value.slice A len cap = .slice (some a) len' cap' := by simpa using hv
    rw [e]
    have hlm : len' ≤ m := by rw [hmm]; split <;> omega
    have hC1 : Try.prog.cellsOf 3 = 1 := by kernel_rfl
    rw [hC1] at hi
    have key : ∀ i, i < len' → ∃ x : Int, w.cell? (a.add i) = some (.int .i64 x) ∧ (Lit.int .i64 x).wf = true := fun i hil => by
      obtain ⟨cs', hc, ht⟩ := hi i (by omega)
      obtain ⟨_, hcl, hat⟩ := World.cells?_some hc
      match cs', hcl with
      | [c0], _ =>
        obtain ⟨n0, h0, _, hw⟩ := DataW.trod_int Try.underlying3 ht
        obtain rfl : c0 = .int .i64 n0 := by simpa using h0
        have a0 := hat 0 (by decide)
        rw [add_of_add, Nat.mul_one] at a0
        exact ⟨n0, by simpa using a0, hw⟩
    obtain ⟨f, hf⟩ := choose_lt (α := Int) key
    refine ⟨_, (List.range len').map f, rfl, ⟨some a, cap', by simp, fun hn => ?_⟩, by simp; omega, fun x hx => ?_⟩
    · simp only [List.length_map, List.length_range] at hn ⊢
      obtain ⟨b, off, spot⟩ := a
      have hc0 := (hf 0 hn).1
      have hspot : spot = none := by simpa [Addr.add] using World.cell?_spot hc0
      subst hspot
      refine ⟨b, off, rfl, hl, fun j u hu => ?_⟩
      have hjl : j < len' := by
        have := (List.getElem?_eq_some_iff.1 hu).1
        rw [cellsI_len] at this; simpa using this
      have hcl := (hf j hjl).1
      rw [addr_add] at hcl
      have hkf : ((List.range len').map f)[j]? = some (f j) := by simp [hjl]
      rw [cellsI_at hkf] at hu
      rw [hcl, ← hu]
    · simp only [List.mem_map, List.mem_range] at hx
      obtain ⟨j, hj, rfl⟩ := hx
      exact bounds64 (hf j hj).2
end
end Go.Proofs.Ytjcnngnahijceaa.opens

/- An argument of type [][]int, opened: rows of integers as they came in. -/
namespace Go.Proofs.Ytjcnngnahijceaa.opens
open Go.RowKit Go.Joins Go.ChangeShapes Go.WideShapes Go.Deep P2 words gridr

/-- what is told of a slice of slices of integers that came in -/
def IsRows (w : World) (v : Value) (us : List Value) (rows : List (List Int)) : Prop :=
  ReadsG w v us rows ∧ rows.length ≤ maxLen ∧ ∀ r ∈ rows, r.length ≤ maxLen ∧ ∀ x ∈ r, -9223372036854775808 ≤ x ∧ x ≤ 9223372036854775807

section
variable {H : Type} {enc : TypeId × Value → H} {w : World} {spare : Nat → Bool} {held : Bool}
theorem open_intsv {fuel : Nat} {v : Value} {x : DataW H × List MemPlace} (h : DataW.trod enc Try.prog w 0 spare held fuel 32 [v] = some x) : ∃ l, IsIn w v l := by
  rcases open_slice Try.underlying32 h with ⟨hv, _⟩ | ⟨a, len', cap', m, n, D, Pl, hv, _, hl, hm, hmm, _, hi⟩
  · obtain rfl : v = .slice none 0 0 := by simpa using hv
    exact ⟨[], Reads.nil _ _, Nat.zero_le _, fun x hx => by cases hx⟩
  · obtain rfl : v = .slice (some a) len' cap' := by simpa using hv
    have hlm : len' ≤ m := by rw [hmm]; split <;> omega
    have hC1 : Try.prog.cellsOf 3 = 1 := by kernel_rfl
    rw [hC1] at hi
    have key : ∀ i, i < len' → ∃ x : Int, w.cell? (a.add i) = some (.int .i64 x) ∧ (Lit.int .i64 x).wf = true := fun i hil => by
      obtain ⟨cs', hc, ht⟩ := hi i (by omega)
      obtain ⟨_, hcl, hat⟩ := World.cells?_some hc
      match cs', hcl with
      | [c0], _ =>
        obtain ⟨n0, h0, _, hw⟩ := DataW.trod_int Try.underlying3 ht
        obtain rfl : c0 = .int .i64 n0 := by simpa using h0
        have a0 := hat 0 (by decide)
        rw [add_of_add, Nat.mul_one] at a0
        exact ⟨n0, by simpa using a0, hw⟩
    obtain ⟨f, hf⟩ := choose_lt (α := Int) key
    refine ⟨(List.range len').map f, ⟨some a, cap', by simp, fun hn => ?_⟩, by simp; omega, fun x hx => ?_⟩
    · simp only [List.length_map, List.length_range] at hn ⊢
      obtain ⟨b, off, spot⟩ := a
      have hc0 := (hf 0 hn).1
      have hspot : spot = none := by simpa [Addr.add] using World.cell?_spot hc0
      subst hspot
      refine ⟨b, off, rfl, hl, fun j u hu => ?_⟩
      have hjl : j < len' := by
        have := (List.getElem?_eq_some_iff.1 hu).1
        rw [cellsI_len] at this; simpa using this
      have hcl := (hf j hjl).1
      rw [addr_add] at hcl
      have hkf : ((List.range len').map f)[j]? = some (f j) := by simp [hjl]
      rw [cellsI_at hkf] at hu
      rw [hcl, ← hu]
    · simp only [List.mem_map, List.mem_range] at hx
      obtain ⟨j, hj, rfl⟩ := hx
      exact bounds64 (hf j hj).2

set_option maxRecDepth 100000 in
theorem open_rowsl {r : Reach} {b0 : Nat} {v : Value} {d : DataW H} {p : List MemPlace} (hv : Value.okWide Try.prog w r b0 42 v)
    (h : DataW.Trod enc Try.prog w 0 spare held 42 v d p) : ∃ u us rows, v = u ∧ IsRows w u us rows := by
  obtain ⟨A, len, cap, rfl⟩ := okWide_slice Try.underlying42 hv
  obtain ⟨fuel, hf⟩ := h
  simp only [Value.cells] at hf
  rcases open_slice Try.underlying42 hf with ⟨hv, _⟩ | ⟨a, len', cap', m, n, D, Pl, hv, _, hl, hm, hmm, _, hi⟩
  · have e : Value.slice A len cap = .slice none 0 0 := by simpa using hv
    rw [e]
    exact ⟨_, [], [], rfl, ⟨Reads.nil _ _, rfl, fun i u r hu hr => by simp at hu⟩, Nat.zero_le _, fun x hx => by cases hx⟩
  · have e : Value.slice A len cap = .slice (some a) len' cap' := by simpa using hv
    rw [e]
    have hlm : len' ≤ m := by rw [hmm]; split <;> omega
    have hC1 : Try.prog.cellsOf 32 = 1 := by kernel_rfl
    rw [hC1] at hi
    have key : ∀ i, i < len' → ∃ y : Value × List Int, w.cell? (a.add i) = some y.1 ∧ IsIn w y.1 y.2 := fun i hil => by
      obtain ⟨cs', hc, ht⟩ := hi i (by omega)
      obtain ⟨_, hcl, hat⟩ := World.cells?_some hc
      match cs', hcl with
      | [c0], _ =>
        obtain ⟨l, hl2⟩ := open_intsv ht
        have a0 := hat 0 (by decide)
        rw [add_of_add, Nat.mul_one] at a0
        exact ⟨(c0, l), by simpa using a0, hl2⟩
    obtain ⟨f, hf⟩ := choose_lt (α := Value × List Int) key
    refine ⟨_, (List.range len').map (fun i => (f i).1), (List.range len').map (fun i => (f i).2), rfl, ⟨⟨some a, cap', by simp, fun hn => ?_⟩, by simp, fun i u r hu hr => ?_⟩, by simp; omega, fun x hx => ?_⟩
    · simp only [List.length_map, List.length_range] at hn ⊢
      obtain ⟨b, off, spot⟩ := a
      have hc0 := (hf 0 hn).1
      have hspot : spot = none := by simpa [Addr.add] using World.cell?_spot hc0
      subst hspot
      refine ⟨b, off, rfl, hl, fun j u hu => ?_⟩
      have hjl : j < len' := by
        have := (List.getElem?_eq_some_iff.1 hu).1
        simpa using this
      have hcl := (hf j hjl).1
      rw [addr_add] at hcl
      have hkf : ((List.range len').map (fun i => (f i).1))[j]? = some (f j).1 := by simp [hjl]
      rw [hkf] at hu
      rw [hcl, ← hu]
    · have hil : i < len' := by
        have := (List.getElem?_eq_some_iff.1 hu).1
        simpa using this
      have h1 : ((List.range len').map (fun i => (f i).1))[i]? = some (f i).1 := by simp [hil]
      have h2 : ((List.range len').map (fun i => (f i).2))[i]? = some (f i).2 := by simp [hil]
      rw [h1] at hu
      rw [h2] at hr
      cases hu
      cases hr
      exact (hf i hil).2.1
    · simp only [List.mem_map, List.mem_range] at hx
      obtain ⟨j, hj, rfl⟩ := hx
      exact (hf j hj).2.2
end
end Go.Proofs.Ytjcnngnahijceaa.opens

/- FnExactIsCaptureProof returns true for every Graph, every number and every table: the program's IsCaptureProof and the model's return the same two values and write into nothing that was there. No conditions. -/
namespace Go.Proofs.Ytjcnngnahijceaa.exCpf
open Go.ChangeShapes Go.WideShapes Go.ChangeAt Go.RowKit P2 words edges ints owns good adjs fns rets sets bags cpfs _root_.Go.Proofs.Ytjcnngnahijceaa.opens
set_option linter.unusedVariables false

/-- one row of a table is no longer than all together -/
theorem tot_mem : ∀ {rows : List (List Int)} {r : List Int}, r ∈ rows → r.length ≤ gridl.tot rows
  | x :: rs, r, h => by
    have e : gridl.tot (x :: rs) = x.length + gridl.tot rs := by simp [gridl.tot]
    rcases List.mem_cons.1 h with rfl | h
    · omega
    · have := tot_mem h; omega
theorem tb_le {tb : List (List Int)} (h : ∀ r ∈ tb, ∀ x ∈ r, x ≤ 9223372036854775807) (p r : Nat) : tbF tb p r ≤ 9223372036854775807 := by
  cases hq : tb[p]? with
  | none =>
    unfold tbF
    rw [show tb.getD p [] = [] from by rw [List.getD_eq_getElem?_getD, hq]; rfl]
    show (0 : Int) ≤ _
    omega
  | some q =>
    cases hy : q[r]? with
    | none =>
      unfold tbF
      rw [show tb.getD p [] = q from by rw [List.getD_eq_getElem?_getD, hq]; rfl, List.getD_eq_getElem?_getD, hy]
      show (0 : Int) ≤ _
      omega
    | some y =>
      rw [tb_at hq hy]
      exact h q (List.mem_of_getElem? hq) y (List.mem_of_getElem? hy)
set_option maxHeartbeats 4000000 in
set_option maxRecDepth 100000 in
theorem core (s0 : Int) (A0 : Option Addr) (c0 : Nat) (l0 : List Ed) (x1 : Int) (A2 : Option Addr) (c2 : Nat) (q2 : List Value) (l2 : List (List Int)) (w : World) (h0 : Edges w (.slice A0 l0.length c0) l0) (hl0 : l0.length ≤ 1048576) (h2 : gridr.ReadsG w (.slice A2 l2.length c2) q2 l2) (hl2 : gridl.tot l2 ≤ 1048576) (hm2 : l2.length ≤ 1048576) (hb2 : l0.length + l2.length + gridl.tot l2 ≤ 1048576)
    (HS : Hid (∀ (B0 : Option Addr) (d0 : Nat) (B2 : Option Addr) (d2 : Nat) (q2 : List Value) (W : World), Edges W (.slice B0 l0.length d0) l0 → gridr.ReadsG W (.slice B2 l2.length d2) q2 l2 → Calls Try.prog 30 #[.agg #[.int .i64 s0, .slice B0 l0.length d0], .int .i64 x1, .slice B2 l2.length d2] W fun e W' => e = .returned (.tuple #[.bool (okG (CapP s0 l0 x1 l2)), .bool (okG (cops.FieldP s0 l0 x1))]) ∧ Below W.heap.size W W'))
    (HI : Hid (∀ (B0 : Option Addr) (d0 : Nat) (B2 : Option Addr) (d2 : Nat) (q2 : List Value) (W : World), Edges W (.slice B0 l0.length d0) l0 → gridr.ReadsG W (.slice B2 l2.length d2) q2 l2 → Calls Try.prog 32 #[.agg #[.int .i64 s0, .slice B0 l0.length d0], .int .i64 x1, .slice B2 l2.length d2] W fun e W' => e = .returned (.tuple #[.bool (okG (CapP s0 l0 x1 l2)), .bool (okG (cops.FieldP s0 l0 x1))]) ∧ Below W.heap.size W W')) :
    Calls Try.prog 7 #[.agg #[.int .i64 s0, .slice A0 l0.length c0], .int .i64 x1, .slice A2 l2.length c2] w fun e w' => e = .returned (.bool true) ∧ Below w.heap.size w w' := by
  have H0 := Lib.hid h0
  have H2 := Lib.hid h2
  have b0_0 : Below w.heap.size w (w.alloc (.cells #[.int .i64 s0, .slice A0 l0.length c0] 24)) := (Below.refl _ _).alloc (Nat.le_refl _) _
  have e0_0 : Below w.heap.size w (w.alloc (.cells #[.int .i64 s0, .slice A0 l0.length c0] 24)) := b0_0
  have g0 := Blk.new w 24 #[.int .i64 s0, .slice A0 l0.length c0]
  have z0_0 := Lib.hid b0_0.size
  have yag := Lib.hid g0.lt
  have hself : ∀ b : Bool, (b != b) = false := fun b => by simp
  have hselfi : ∀ b : Int, (b != b) = false := fun b => by simp
  clear h0 h2
  go_enter Try.func7, Try.ntmps7
  have hz0 : ((l0.length : Nat) : Int) ≤ 1048576 := by omega
  obtain ⟨pag0, pag1, -, -⟩ := g0.two
  go_wp2_with fail
  refine (szGraph_yes s0 (.slice A0 l0.length c0) l0 (1048576) (w.alloc (.cells #[.int .i64 s0, .slice A0 l0.length c0] 24)) (H0.out.below e0_0) (by omega) (by omega)).mono ?_
  rintro e w2 ⟨rfl, bw2⟩
  clear pag0 pag1
  have e0 := btrans e0_0 bw2
  have z0 := Lib.hid bw2.size
  replace g0 := g0.below bw2 g0.lt
  clear bw2
  go_wp2_with fail
  refine (gridl.szIntSS_yes (.slice A2 l2.length c2) q2 l2 (1048576 - (l0.length : Int)) w2 (H2.out.below e0) (by omega) (by omega) (by omega)).mono ?_
  rintro e w3 ⟨rfl, bw3⟩
  have e1 := btrans e0 bw3
  have z1 := Lib.hid bw3.size
  replace g0 := g0.below bw3 g0.lt
  clear bw3 e0
  have hy2 : ¬ (1048576 - (l0.length : Int) - (l2.length : Int) - (gridl.tot l2 : Int) < 0) := by omega
  obtain ⟨pag0, pag1, -, -⟩ := g0.two
  go_wp2_with fail
  refine (toGraph_any s0 (.slice A0 l0.length c0) l0 w3 (H0.out.below e1) hl0).mono ?_
  rintro e w4 ⟨Apg, cpg, rfl, opg, bw4⟩
  clear pag0 pag1
  have e2 := btrans e1 bw4
  have z2 := Lib.hid bw4.size
  replace g0 := g0.below bw4 g0.lt
  clear bw4 e1
  have opg_ := OwnR.new opg
  clear opg
  go_wp2_with fail
  refine (gridl.toIntSS_any (.slice A2 l2.length c2) q2 l2 w4 (H2.out.below e2) hl2 hm2).mono ?_
  rintro e w5 ⟨Aptable, cptable, usptable, rfl, optable, bw5⟩
  have e3 := btrans e2 bw5
  have z3 := Lib.hid bw5.size
  replace g0 := g0.below bw5 g0.lt
  replace opg_ := opg_.below bw5
  clear bw5 e2
  have optable_ := gridl.OwnGR.new optable
  clear optable
  go_wp2_with fail
  refine (HS.out Apg cpg Aptable cptable usptable w5 opg_.reads optable_.reads).mono ?_
  rintro e w6 ⟨rfl, bw6⟩
  have e4 := btrans e3 bw6
  have z4 := Lib.hid bw6.size
  replace g0 := g0.below bw6 g0.lt
  replace opg_ := opg_.below bw6
  replace optable_ := optable_.below bw6
  clear bw6 e3
  obtain ⟨pag0, pag1, -, -⟩ := g0.two
  go_wp2_with fail
  refine (toGraph_any s0 (.slice A0 l0.length c0) l0 w6 (H0.out.below e4) hl0).mono ?_
  rintro e w7 ⟨Axg, cxg, rfl, oxg, bw7⟩
  clear pag0 pag1
  have e5 := btrans e4 bw7
  have z5 := Lib.hid bw7.size
  replace g0 := g0.below bw7 g0.lt
  clear bw7 e4
  have oxg_ := OwnR.new oxg
  clear oxg
  have bxxg : Below w7.heap.size w7 (w7.alloc (.cells #[.int .i64 s0, .slice Axg l0.length cxg] 28)) := (Below.refl _ _).alloc (Nat.le_refl _) _
  have gxg := Blk.new w7 28 #[.int .i64 s0, .slice Axg l0.length cxg]
  have e6 := btrans e5 bxxg
  have z6 := Lib.hid bxxg.size
  replace g0 := g0.below bxxg g0.lt
  replace oxg_ := oxg_.below bxxg
  clear bxxg e5
  have yxg := Lib.hid gxg.lt
  go_wp2_with fail
  refine (gridl.toIntSS_any (.slice A2 l2.length c2) q2 l2 (w7.alloc (.cells #[.int .i64 s0, .slice Axg l0.length cxg] 28)) (H2.out.below e6) hl2 hm2).mono ?_
  rintro e w8 ⟨Axtable, cxtable, usxtable, rfl, oxtable, bw8⟩
  have e7 := btrans e6 bw8
  have z7 := Lib.hid bw8.size
  replace g0 := g0.below bw8 g0.lt
  replace gxg := gxg.below bw8 gxg.lt
  replace oxg_ := oxg_.below bw8
  clear bw8 e6
  have oxtable_ := gridl.OwnGR.new oxtable
  clear oxtable
  obtain ⟨pxg0, pxg1, -, -⟩ := gxg.two
  go_wp2_with fail
  refine (HI.out Axg cxg Axtable cxtable usxtable w8 oxg_.reads oxtable_.reads).mono ?_
  rintro e w9 ⟨rfl, bw9⟩
  clear pxg0 pxg1
  have e8 := btrans e7 bw9
  have z8 := Lib.hid bw9.size
  replace g0 := g0.below bw9 g0.lt
  replace gxg := gxg.below bw9 gxg.lt
  replace oxg_ := oxg_.below bw9
  replace oxtable_ := oxtable_.below bw9
  clear bw9 e7
  obtain ⟨pag0, pag1, -, -⟩ := g0.two
  obtain ⟨pxg0, pxg1, -, -⟩ := gxg.two
  have HA := Lib.hid (H0.out.below e8)
  have HX := Lib.hid (oxg_.reads)
  go_wp2_with fail
  go_region_held3 (fun w' => w'.cell? ⟨w.heap.size, 0, none⟩ = some (.int .i64 s0) ∧ w'.cell? ⟨w.heap.size, 1, none⟩ = some (.slice A0 l0.length c0) ∧ w'.cell? ⟨w7.heap.size, 0, none⟩ = some (.int .i64 s0) ∧ w'.cell? ⟨w7.heap.size, 1, none⟩ = some (.slice Axg l0.length cxg)) (go_keep)
    (first | (go_at_call 15; refine (toGraph_k s0 (.slice A0 l0.length c0) l0 w9.drew HA.out hl0 (p := ⟨w.heap.size, 0, none⟩) (q := ⟨w.heap.size, 1, none⟩) (r := ⟨w7.heap.size, 0, none⟩) (t := ⟨w7.heap.size, 1, none⟩) (a := .int .i64 s0) (b := .slice A0 l0.length c0) (c := .int .i64 s0) (d := .slice Axg l0.length cxg) ?_ ?_ ?_ ?_).mono ?_; (simp [*]); (simp [*]); (simp [*]); (simp [*]); rintro e w10 ⟨⟨Ay, cy, rfl, oy⟩, k0, k1, k2, k3, bw10⟩)
           | (go_at_call 17; refine (eqGraph_k s0 _ _ l0 _ (Reads.below (w := w9.drew) HX.out bw10) (Reads.of_own oy) hl0 (p := ⟨w.heap.size, 0, none⟩) (q := ⟨w.heap.size, 1, none⟩) (r := ⟨w7.heap.size, 0, none⟩) (t := ⟨w7.heap.size, 1, none⟩) (a := .int .i64 s0) (b := .slice A0 l0.length c0) (c := .int .i64 s0) (d := .slice Axg l0.length cxg) ?_ ?_ ?_ ?_).mono ?_; (simp [*]); (simp [*]); (simp [*]); (simp [*]); rintro e w11 ⟨rfl, m0, m1, m2, m3, bw11⟩))
  clear k0 k1 k2 k3 m0 m1 m2 m3 HA HX oy
  clear pag0 pag1 pxg0 pxg1
  have cw10 : Below w9.heap.size w9 w10 := (Below.refl _ _).drew.trans bw10
  clear bw10
  have e9 := btrans e8 cw10
  have z9 := Lib.hid cw10.size
  replace g0 := g0.below cw10 g0.lt
  replace gxg := gxg.below cw10 gxg.lt
  replace oxg_ := oxg_.below cw10
  replace oxtable_ := oxtable_.below cw10
  clear cw10 e8
  have e10 := btrans e9 bw11
  have z10 := Lib.hid bw11.size
  replace g0 := g0.below bw11 g0.lt
  replace gxg := gxg.below bw11 gxg.lt
  replace oxg_ := oxg_.below bw11
  replace oxtable_ := oxtable_.below bw11
  clear bw11 e9
  go_wp2_with fail
  refine (gridl.toIntSS_any (.slice A2 l2.length c2) q2 l2 w11 (H2.out.below e10) hl2 hm2).mono ?_
  rintro e w12 ⟨Aytable, cytable, usytable, rfl, oytable, bw12⟩
  have e11 := btrans e10 bw12
  have z11 := Lib.hid bw12.size
  replace g0 := g0.below bw12 g0.lt
  replace gxg := gxg.below bw12 gxg.lt
  replace oxg_ := oxg_.below bw12
  replace oxtable_ := oxtable_.below bw12
  clear bw12 e10
  have oytable_ := gridl.OwnGR.new oytable
  clear oytable
  go_wp2_with fail
  refine (gridl.eqIntSS_own _ _ _ _ l2 w12 oxtable_.reads oytable_.reads hl2 hm2).mono ?_
  rintro e w13 ⟨rfl, bw13⟩
  have e12 := btrans e11 bw13
  have z12 := Lib.hid bw13.size
  replace g0 := g0.below bw13 g0.lt
  replace gxg := gxg.below bw13 gxg.lt
  replace oxg_ := oxg_.below bw13
  replace oxtable_ := oxtable_.below bw13
  replace oytable_ := oytable_.below bw13
  clear bw13 e11
  clear oytable_
  go_wp2_with fail
  go_ret
  exact ⟨rfl, e12⟩

set_option maxHeartbeats 1000000 in
set_option maxRecDepth 100000 in
theorem walk (s0 : Int) (u0 : Value) (l0 : List Ed) (x1 : Int) (u2 : Value) (q2 : List Value) (l2 : List (List Int)) (w : World) (w0 : IsGr w s0 u0 l0) (w1 : (Lit.int .i64 x1).wf = true) (w2 : IsRows w u2 q2 l2) :
    Calls Try.prog 7 #[.agg #[.int .i64 s0, u0], .int .i64 x1, u2] w fun e w' => e = .returned (.bool true) ∧ Below w.heap.size w w' := by
  obtain ⟨h0, hm0, hs0, ht0⟩ := w0
  obtain ⟨A0, c0, rfl, -⟩ := h0.form
  unfold maxLen at hm0
  have hb1 := opens.bounds64 w1
  clear w1
  obtain ⟨h2, hm2, hi2⟩ := w2
  obtain ⟨A2, c2, rfl, -⟩ := h2.1
  unfold maxLen at hm2 hi2
  have b0_0 : Below w.heap.size w (w.alloc (.cells #[.int .i64 s0, .slice A0 l0.length c0] 24)) := (Below.refl _ _).alloc (Nat.le_refl _) _
  have e0_0 : Below w.heap.size w (w.alloc (.cells #[.int .i64 s0, .slice A0 l0.length c0] 24)) := b0_0
  have g0 := Blk.new w 24 #[.int .i64 s0, .slice A0 l0.length c0]
  by_cases hl0 : l0.length ≤ 1048576
  rotate_left
  · have hlt : (1048576 : Int) < (l0.length : Int) := by omega
    have HZ := Lib.hid (szGraph_no s0 (.slice A0 l0.length c0) l0 1048576 _ (h0.below e0_0) hlt (by omega) (by omega))
    clear h0 h2
    obtain ⟨p0, p1, -, -⟩ := g0.two
    go_enter Try.func7, Try.ntmps7
    go_wp2_with fail
    refine HZ.out.mono ?_
    rintro e w1 ⟨rfl, b1⟩
    go_wp2_with fail
    go_ret
    exact ⟨rfl, btrans e0_0 b1⟩
  by_cases hb2 : l0.length + l2.length + gridl.tot l2 ≤ 1048576
  rotate_left
  · have HZ := Lib.hid (szGraph_yes s0 (.slice A0 l0.length c0) l0 1048576 _ (h0.below e0_0) (by omega) (by omega))
    have HY := Lib.hid (fun (w1 : World) (b1 : Below (w.alloc (.cells #[.int .i64 s0, .slice A0 l0.length c0] 24)).heap.size (w.alloc (.cells #[.int .i64 s0, .slice A0 l0.length c0] 24)) w1) => gridl.szIntSS_no (.slice A2 l2.length c2) q2 l2 (1048576 - (l0.length : Int)) w1 (h2.below (btrans e0_0 b1)) (by omega) (by omega) (by omega) (fun r hr => by have := (hi2 r hr).1; omega) (by omega))
    have hln : ((l0.length : Nat) : Int) ≤ 1048576 := by omega
    clear h0 h2
    obtain ⟨p0, p1, -, -⟩ := g0.two
    go_enter Try.func7, Try.ntmps7
    go_wp2_with fail
    refine HZ.out.mono ?_
    rintro e w1 ⟨rfl, b1⟩
    clear p0 p1
    go_wp2_with fail
    refine (HY.out w1 b1).mono ?_
    rintro e w2 ⟨rfl, b2⟩
    go_wp2_with fail
    go_ret
    exact ⟨rfl, btrans (btrans e0_0 b1) b2⟩
  have hl2 : gridl.tot l2 ≤ 1048576 := by omega
  exact core s0 A0 c0 l0 x1 A2 c2 q2 l2 w h0 hl0 h2 hl2 (by omega) hb2 (Lib.hid (fun B0 d0 B2 d2 q2 W k0 k2 => specCpf_any s0 x1 _ B2 d2 q2 l2 l0 W k0 hl0 k2 (by omega) (fun r hr => Nat.le_trans (tot_mem hr) hl2) (tb_le fun r hr x hx => ((hi2 r hr).2 x hx).2) hs0 ht0)) (Lib.hid (fun B0 d0 B2 d2 q2 W k0 k2 => implCpf_any s0 x1 _ B2 d2 q2 l2 l0 W k0 hl0 k2 (by omega) (fun r hr => Nat.le_trans (tot_mem hr) hl2)))

theorem own : ownKnob Try.prog.godebug = none := by kernel_rfl
theorem laidOut : laidOutB Try.prog = true := by kernel_rfl

set_option maxHeartbeats 1000000 in
set_option maxRecDepth 100000 in
theorem lifted (os : Os) (started : os.Started) (H : Type) (enc : TypeId × Value → H) :
    ReturnsInHanded {} Try.checked os 7 .any (Rows.fnExactIsCaptureProofSpec.pre6 enc Try.prog Try.f7 Rows.fnExactIsCaptureProofRow.domain false) (Rows.fnExactIsCaptureProofSpec.post enc Try.prog Try.f7 false true false false) := by
  refine returnsInHanded_of_change (C := Try.checked) own started (by kernel_rfl) Try.func7
    (ChangeSpec.witness6 (enc := enc) (C := Try.checked) false ⟨#[], #[.agg #[.int .i64 0, .slice none 0 0], .int .i64 0, .slice none 0 0], []⟩ 8 (by kernel_rfl) (by kernel_rfl) (by kernel_rfl) (by kernel_rfl)) ?_
  intro W base args ds gs before hval0 hW hcnd _
  have hval : ∀ (j : Nat) t v, Try.f7.params[j]? = some t → args[j]? = some v → Value.okWide Try.prog W .any base t v := hval0
  have hW' := hW
  obtain ⟨p, q, hA0, hV, rfl, hfz, hnd⟩ := hW
  have hA : DataW.TrodAll enc Try.prog W 0 (fun _ => true) true Try.f7.params.toList args.toList ds p := hA0
  rw [Try.params7] at hA hval
  obtain ⟨v0, vs0, d0, ds0, p0, q0, hargs, rfl, rfl, h0, r0⟩ := trodAll_cons hA
  obtain ⟨v1, vs1, d1, ds1, p1, q1, rfl, rfl, rfl, h1, r1⟩ := trodAll_cons r0
  obtain ⟨v2, vs2, d2, ds2, p2, q2, rfl, rfl, rfl, h2, r2⟩ := trodAll_cons r1
  obtain ⟨rfl, rfl, rfl⟩ := trodAll_nil r2
  obtain rfl : args = #[v0, v1, v2] := by cases args; simp_all
  obtain ⟨rfl, rfl⟩ := trodVars_none hV
  have k0 := h0
  have lt0 : ∀ x ∈ p0, x.block < W.heap.size := by obtain ⟨m, hm⟩ := k0; exact DataW.trod_lt m _ _ _ hm
  obtain ⟨s0, u0, l0, rfl, w0⟩ := opens.open_graph (hval 0 24 v0 rfl rfl) h0
  obtain ⟨a1, rfl, rfl, rfl, w1⟩ := open_int Try.underlying3 (hval 1 3 v1 rfl rfl) h1
  have k2 := h2
  have lt2 : ∀ x ∈ p2, x.block < W.heap.size := by obtain ⟨m, hm⟩ := k2; exact DataW.trod_lt m _ _ _ hm
  obtain ⟨u2, q2, l2, rfl, w2⟩ := opens.open_rowsl (hval 2 42 v2 rfl rfl) h2
  clear hA0 hval0
  refine (walk s0 u0 l0 a1 v2 q2 l2 W w0 w1 w2).mono fun e W' ⟨he, bel⟩ => ?_
  subst he
  exact ⟨_, rfl, _, _, _, [], _, [], hW', trodAll_mk1 (shut_bool Try.underlying4 _), (trodAll_cons_mk (Below.trod laidOut (by kernel_rfl) (of_decide_eq_true (by kernel_rfl)) k0 bel lt0) (trodAll_cons_mk (shut_int Try.underlying3 w1) (trodAll_cons_mk (Below.trod laidOut (by kernel_rfl) (of_decide_eq_true (by kernel_rfl)) k2 bel lt2) trodAll_mk0))), rfl, bel.frame _, fun h => by cases h⟩

theorem over : Rows.fnExactIsCaptureProofRow.holds Try.pinned (OpenSpec.ofChange Rows.fnExactIsCaptureProofSpec) :=
  OpenClaim.holds_of_wide 7 Try.f7 rfl rfl rfl rfl rfl rfl rfl ⟨rfl, rfl, rfl, rfl, rfl⟩ rfl rfl rfl rfl rfl (by kernel_rfl) Try.func7 (by kernel_rfl)
    (of_decide_eq_true (by kernel_rfl)) (by unfold Func.isWrapper; first | (rw [if_pos (by decide +kernel)]; kernel_rfl) | (rw [if_neg (by decide +kernel)]; exact ⟨rfl, rfl⟩))
    (fun os started H enc _ => lifted os started H enc)

theorem fnExactIsCaptureProof_holds : Rows.FnExactIsCaptureProofSaid := over
end Go.Proofs.Ytjcnngnahijceaa.exCpf
