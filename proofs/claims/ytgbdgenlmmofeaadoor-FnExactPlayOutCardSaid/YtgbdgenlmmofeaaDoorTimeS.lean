/- The contracts of the model's l3Worst, l3After and l3Best. -/
import Derived.Handy
import Derived.Test.YtgbdgenlmmofeaaDoorTimeL
import Derived.Test.YtgbdgenlmmofeaaDoorMinMax
import Derived.Test.YtgbdgenlmmofeaaDoorBall
import Derived.Test.YtgbdgenlmmofeaaDoorGridR
import Derived.Test.YtgbdgenlmmofeaaDoorNearV
import Derived.Deep.DeepCutAuto
import Derived.BigQuiet
import Derived.StillTailTactics
namespace Go.Proofs.YtgbdgenlmmofeaaDoor.times
open Go.RowKit P2 words edges ints good adjs fns sets rets covs balls minmax gridr
set_option linter.unusedVariables false

def rowL (n : Nat) (f : Nat → Int) : List Int := (List.range n).map f
def tabL (n : Nat) (T : Nat → Nat → Int) : List (List Int) := (List.range n).map fun p => rowL n (T p)
theorem rowL_len (n : Nat) (f : Nat → Int) : (rowL n f).length = n := by simp [rowL]
theorem rowL_at {n k : Nat} {f : Nat → Int} (h : k < n) : (rowL n f)[k]? = some (f k) := by simp [rowL, h]
theorem tabL_len (n : Nat) (T : Nat → Nat → Int) : (tabL n T).length = n := by simp [tabL]
theorem tabL_at {n k : Nat} {T : Nat → Nat → Int} (h : k < n) : (tabL n T)[k]? = some (rowL n (T k)) := by simp [tabL, h]
theorem ballL_mem {l : List Ed} {n x k : Nat} {b : Int} (h : (ballL l n x)[k]? = some b) : ∃ y : Nat, b = (y : Int) ∧ y < n ∧ ballB l x y = true := by
  obtain ⟨y, h1, h2, h3⟩ := mem_nw.1 (List.mem_of_getElem? h)
  exact ⟨y, h3, h1, h2⟩

set_option maxHeartbeats 2000000 in
set_option maxRecDepth 100000 in
theorem l3Worst_any (n p r : Nat) (T : Nat → Nat → Int) (v t : Value) (us : List Value) (l : List Ed) (w : World) (h : Edges w v l) (hl : l.length ≤ 1048576) (ht : ReadsG w t us (tabL n T)) (hn : n ≤ 8) (hp : p < n) (hr : r < n) :
    Calls Tryd.prog 75 #[.agg #[.int .i64 (n : Int), v], t, .int .i64 (p : Int), .int .i64 (r : Int)] w fun e w' => e = .returned (.int .i64 (worstL (fun x => T p x.toNat) (ballL l n r))) ∧ Below w.heap.size w w' := by
  obtain ⟨A, c, rfl, -⟩ := h.form
  obtain ⟨At, ct, rfl, -⟩ := ht.1
  rw [tabL_len] at *
  obtain ⟨u, gt, ot, hu, rfl, c0, hru⟩ := ht.row (tabL_at (T := T) hp)
  obtain ⟨Ar, cr, rfl, hcr⟩ := hru.form
  have HCR := Lib.hid hcr
  have b0 : Below w.heap.size w (w.alloc (.cells #[.int .i64 (n : Int), .slice A l.length c] 29)) := (Below.refl _ _).alloc (Nat.le_refl _) _
  have g0 := Blk.new w 29 #[.int .i64 (n : Int), .slice A l.length c]
  have HB := Lib.hid (l2Ball_any n (r : Int) _ l _ (h.below b0) hl hn (by omega))
  have hlen := nw_len (ballB l (r : Int).toNat) n
  have HBL := Lib.hid (fun k b hb => ballL_mem (l := l) (n := n) (x := r) (k := k) (b := b) hb)
  rw [Int.toNat_natCast] at HB hlen
  have hlr := rowL_len n (T p)
  rw [hlr] at *
  have HV : Hid (nw (ballB l r) n = ballL l n r) := rfl
  rw [HV.out] at HB hlen
  generalize ballL l n r = bl at *
  have c0' := Lib.hid c0
  clear h ht hu hru hcr HV c0
  go_enter Tryd.func75, Tryd.ntmps75
  go_wp2_with fail
  refine HB.out.mono ?_
  rintro e w1 ⟨A1, c1, rfl, r1, b1⟩
  have e1 := btrans b0 b1
  obtain ⟨_, _, hf, hc1⟩ := Ints.form r1
  cases hf
  have HC := Lib.hid hc1
  have he1 := e1.size
  clear HB b0 g0 b1 r1 hc1
  go_wp2_with fail
  go_loopg [9, 11] bl.length (fun g m i wr => ∃ k : Nat, k + g = bl.length ∧ i = .int .i64 (k : Int) ∧ m = .int .i64 (mostL (fun x => T p x.toNat) (bl.take k)) ∧ Hid (∀ j b, j < k → bl[j]? = some b → 0 ≤ T p b.toNat) ∧ Below w1.heap.size w1 wr)
  case atStart => exact ⟨0, by omega, rfl, rfl, fun j b h => by omega, Below.refl _ _⟩
  case round =>
    obtain ⟨k, hkg, rfl, rfl, hok, hB⟩ := hrel
    have hB0 := btrans e1 hB
    cases gk with
    | zero =>
      obtain rfl : k = bl.length := by omega
      have HY : Hid (worstL (fun x => T p x.toNat) bl = mostL (fun x => T p x.toNat) (bl.take bl.length)) := by show _ = _; rw [List.take_length]; exact worst_yes hok.out
      go_wp2_with fail
      go_ret
      exact ⟨ret_int HY.out.symm, hB0⟩
    | succ g2 =>
      have hlt : k < bl.length := by omega
      have hlt' : (k : Int) < (bl.length : Int) := by omega
      obtain ⟨b, hb⟩ : ∃ b, bl[k]? = some b := ⟨_, List.getElem?_eq_getElem hlt⟩
      obtain ⟨ga, oa, rfl, d0⟩ := HC.out k b hb
      have m0 : wr.cell? ⟨ga, oa + k, none⟩ = some (.int .i64 b) := nearv.cell_keep d0 hB
      obtain ⟨y, rfl, hy, -⟩ := HBL.out k b hb
      have hy' : (y : Int) < (n : Int) := by omega
      have hy0 : (0 : Int) ≤ (y : Int) := by omega
      have hy9 : (y : Int) < ((rowL n (T p)).length : Int) := by rw [rowL_len]; omega
      have hp' : (p : Int) < (n : Int) := by omega
      have hp0 : (0 : Int) ≤ (p : Int) := by omega
      obtain ⟨gr, orr, rfl, f0⟩ := HCR.out y _ (rowL_at hy)
      have m1 : wr.cell? ⟨gr, orr + y, none⟩ = some (.int .i64 (T p y)) := nearv.cell_keep f0 hB0
      have m2 := nearv.cell_keep c0'.out hB0
      have HM := Lib.hid (mostL_succ (f := fun x => T p x.toNat) hb)
      by_cases hneg : T p y < 0
      · have HY := Lib.hid (worst_no (f := fun x => T p x.toNat) hb (by simpa using hneg))
        have dn : decide (T p y < 0) = true := by simpa using hneg
        have HBQ := Lib.hid (fun nq => below_drewN hB0 nq)
        clear hb d0 f0
        go_wp2_with fail
        go_quiet (fail)
        go_wp2_with fail
        go_ret
        exact ⟨ret_int HY.out.symm, HBQ.out _⟩
      · have HK : Hid (∀ j b, j < k + 1 → bl[j]? = some b → 0 ≤ T p b.toNat) := fun j z hj hz => by
          by_cases e : j = k
          · subst e; rw [hb] at hz; cases hz; simp; omega
          · exact hok.out j z (by omega) hz
        have dn : decide (T p y < 0) = false := by simpa using hneg
        have HMX := Lib.hid (fun (W : World) => l1Most_any (mostL (fun x => T p x.toNat) (bl.take k)) (T p y) W)
        have HBQ := Lib.hid (fun nq => below_drewN hB nq)
        simp only [Int.toNat_natCast] at HM
        clear hb d0 f0 hok hB hB0
        go_wp2_with fail
        go_quiet (fail)
        go_wp2_with fail
        have m0' : (wr.drewN nq).cell? _ = _ := m0
        have m1' : (wr.drewN nq).cell? _ = _ := m1
        have m2' : (wr.drewN nq).cell? _ = _ := m2
        have HB5 := Lib.hid (HBQ.out nq)
        clear m0 m1 m2 HBQ
        generalize wr.drewN nq = w5 at *
        have HBQ := Lib.hid (fun nq => below_drewN HB5.out nq)
        go_quiet ((go_at_call 85; exact quiet_left (HMX.out _)))
        go_wp2_with fail
        go_roundg g2
        case measure => omega
        case rel => exact ⟨k + 1, by omega, by go_num, by rw [HM.out], HK, HBQ.out _⟩

theorem l3After_any (n p r : Nat) (T : Nat → Nat → Int) (v t : Value) (us : List Value) (l : List Ed) (w : World) (h : Edges w v l) (hl : l.length ≤ 1048576) (ht : ReadsG w t us (tabL n T)) (hn : n ≤ 8) (hp : p < n) (hr : r < n) :
    Calls Tryd.prog 58 #[.agg #[.int .i64 (n : Int), v], t, .int .i64 (p : Int), .int .i64 (r : Int)] w fun e w' => e = .returned (.int .i64 (afterV T (ballL l n) p r)) ∧ Below w.heap.size w w' := by
  obtain ⟨A, c, rfl, -⟩ := h.form
  have b0 : Below w.heap.size w (w.alloc (.cells #[.int .i64 (n : Int), .slice A l.length c] 29)) := (Below.refl _ _).alloc (Nat.le_refl _) _
  have g0 := Blk.new w 29 #[.int .i64 (n : Int), .slice A l.length c]
  have HW := Lib.hid (l3Worst_any n p r T _ t us l _ (h.below b0) hl (ht.below b0) hn hp hr)
  obtain ⟨At, ct, rfl, -⟩ := ht.1
  clear h ht
  obtain ⟨p0, p1, -, -⟩ := g0.two
  by_cases hpr : p = r
  · have HV : Hid (afterV T (ballL l n) p r = 0) := if_pos hpr
    have d0 : ((p : Int) == (r : Int)) = true := by simp; omega
    clear hpr HW
    go_enter Tryd.func58, Tryd.ntmps58
    go_wp2_with fail
    go_ret
    exact ⟨ret_int HV.out.symm, b0⟩
  · have HV : Hid (afterV T (ballL l n) p r = worstL (fun x => T p x.toNat) (ballL l n r)) := if_neg hpr
    have d0 : ((p : Int) == (r : Int)) = false := by simp; omega
    clear hpr
    go_enter Tryd.func58, Tryd.ntmps58
    go_wp2_with fail
    refine HW.out.mono ?_
    rintro e w1 ⟨rfl, b1⟩
    go_wp2_with fail
    go_ret
    exact ⟨ret_int HV.out.symm, btrans b0 b1⟩

set_option maxHeartbeats 2000000 in
set_option maxRecDepth 100000 in
theorem l3Best_any (n p r : Nat) (T : Nat → Nat → Int) (v t : Value) (us : List Value) (l : List Ed) (w : World) (h : Edges w v l) (hl : l.length ≤ 1048576) (ht : ReadsG w t us (tabL n T)) (hn : n ≤ 8) (hp : p < n) (hr : r < n) :
    Calls Tryd.prog 56 #[.agg #[.int .i64 (n : Int), v], t, .int .i64 (p : Int), .int .i64 (r : Int)] w fun e w' => e = .returned (.int .i64 (bestL (fun q => afterV T (ballL l n) q.toNat r) (ballL l n p))) ∧ Below w.heap.size w w' := by
  obtain ⟨A, c, rfl, -⟩ := h.form
  have H := Lib.hid h
  have HT := Lib.hid ht
  obtain ⟨At, ct, rfl, -⟩ := ht.1
  rw [tabL_len] at *
  have b0 : Below w.heap.size w (w.alloc (.cells #[.int .i64 (n : Int), .slice A l.length c] 29)) := (Below.refl _ _).alloc (Nat.le_refl _) _
  have g0 := Blk.new w 29 #[.int .i64 (n : Int), .slice A l.length c]
  have HB := Lib.hid (l2Ball_any n (p : Int) _ l _ (h.below b0) hl hn (by omega))
  have hlen := nw_len (ballB l (p : Int).toNat) n
  have HBL := Lib.hid (fun k b hb => ballL_mem (l := l) (n := n) (x := p) (k := k) (b := b) hb)
  have HA := Lib.hid (fun (q : Nat) (hq : q < n) (W : World) (hW : Below w.heap.size w W) => l3After_any n q r T _ _ us l W (h.below hW) hl (ht.below hW) hn hq hr)
  rw [Int.toNat_natCast] at HB hlen
  have HV : Hid (nw (ballB l p) n = ballL l n p) := rfl
  rw [HV.out] at HB hlen
  have HG : Hid (∃ G : Nat → Int, ∀ q, afterV T (ballL l n) q r = G q) := ⟨_, fun q => rfl⟩
  obtain ⟨G, HGQ⟩ := HG.out
  have HGQ := Lib.hid HGQ
  simp only [HGQ.out] at HA ⊢
  generalize ballL l n p = bl at *
  clear h ht HV HG HGQ
  go_enter Tryd.func56, Tryd.ntmps56
  go_wp2_with fail
  refine HB.out.mono ?_
  rintro e w1 ⟨A1, c1, rfl, r1, b1⟩
  have e1 := btrans b0 b1
  have g1 := g0.below b1 g0.lt
  obtain ⟨_, _, hf, hc1⟩ := Ints.form r1
  cases hf
  have HC := Lib.hid hc1
  have he1 := e1.size
  clear HB b0 g0 b1 r1 hc1
  go_wp2_with fail
  go_loopg [9, 11] bl.length (fun g m i wr => ∃ k : Nat, k + g = bl.length ∧ i = .int .i64 (k : Int) ∧ m = .int .i64 (bestL (fun q => G q.toNat) (bl.take k)) ∧ Blk wr w.heap.size 29 #[.int .i64 (n : Int), .slice A l.length c] ∧ Below w1.heap.size w1 wr)
  case atStart => exact ⟨0, by omega, rfl, rfl, g1, Below.refl _ _⟩
  case round =>
    obtain ⟨k, hkg, rfl, rfl, hgb, hB⟩ := hrel
    obtain ⟨p0, p1, -, -⟩ := hgb.two
    have hB0 := btrans e1 hB
    cases gk with
    | zero =>
      obtain rfl : k = bl.length := by omega
      have HY : Hid (bl.take bl.length = bl) := List.take_length
      go_wp2_with fail
      go_ret
      exact ⟨ret_int (by rw [HY.out]), hB0⟩
    | succ g2 =>
      have hlt : k < bl.length := by omega
      have hlt' : (k : Int) < (bl.length : Int) := by omega
      obtain ⟨b, hb⟩ : ∃ b, bl[k]? = some b := ⟨_, List.getElem?_eq_getElem hlt⟩
      obtain ⟨ga, oa, rfl, d0⟩ := HC.out k b hb
      have m0 : wr.cell? ⟨ga, oa + k, none⟩ = some (.int .i64 b) := nearv.cell_keep d0 hB
      obtain ⟨y, rfl, hy, -⟩ := HBL.out k b hb
      have HM := Lib.hid (bestL_succ (f := fun q => G q.toNat) hb)
      simp only [Int.toNat_natCast] at HM
      have HCV := Lib.hid (HA.out y hy wr.drew hB0.drew)
      have HGD := Lib.hid (hgb.drewN 1)
      have HBD : Hid (Below w1.heap.size w1 wr.drew) := hB.drew
      clear hb d0 hgb hB hB0
      generalize bestL (fun q => G q.toNat) (bl.take k) = z at *
      generalize G y = a at *
      have hst : Hid (stepB z a = if 0 ≤ a ∧ (z < 0 ∨ a < z) then a else z) := rfl
      by_cases ha : 0 ≤ a
      · have da : decide (0 ≤ a) = true := decide_eq_true ha
        by_cases hz : z < 0
        · have dz : decide (z < 0) = true := decide_eq_true hz
          have hs : stepB z a = a := by rw [hst.out, if_pos ⟨ha, .inl hz⟩]
          rw [hs] at HM
          clear hs ha hz hst
          go_wp2_with fail
          go_still_tail 7, (by kernel_rfl)
          change wpList _ _ _ _ _ wr.drew
          go_wp2_with fail
          refine HCV.out.mono ?_
          rintro e w3 ⟨rfl, b3⟩
          have HG3 := Lib.hid (HGD.out.below b3 HGD.out.lt)
          have HB3 := Lib.hid (HBD.out.trans (b3.mono HBD.out.size))
          clear b3 p0 p1
          go_wp2_with fail
          go_roundg g2
          case measure => omega
          case rel => exact ⟨k + 1, by omega, by go_num, by rw [HM.out], HG3.out, HB3.out⟩
        · have dz : decide (z < 0) = false := decide_eq_false hz
          by_cases hl9 : a < z
          · have dl : decide (a < z) = true := decide_eq_true hl9
            have hs : stepB z a = a := by rw [hst.out, if_pos ⟨ha, .inr hl9⟩]
            rw [hs] at HM
            clear hs ha hz hst hl9
            go_wp2_with fail
            go_still_tail 7, (by kernel_rfl)
            change wpList _ _ _ _ _ wr.drew
            go_wp2_with fail
            refine HCV.out.mono ?_
            rintro e w3 ⟨rfl, b3⟩
            have HG3 := Lib.hid (HGD.out.below b3 HGD.out.lt)
            have HB3 := Lib.hid (HBD.out.trans (b3.mono HBD.out.size))
            clear b3 p0 p1
            go_wp2_with fail
            go_roundg g2
            case measure => omega
            case rel => exact ⟨k + 1, by omega, by go_num, by rw [HM.out], HG3.out, HB3.out⟩
          · have dl : decide (a < z) = false := decide_eq_false hl9
            have hs : stepB z a = z := by rw [hst.out, if_neg (fun hh => hh.2.elim hz hl9)]
            rw [hs] at HM
            clear hs ha hz hst hl9
            go_wp2_with fail
            go_still_tail 7, (by kernel_rfl)
            change wpList _ _ _ _ _ wr.drew
            go_wp2_with fail
            refine HCV.out.mono ?_
            rintro e w3 ⟨rfl, b3⟩
            have HG3 := Lib.hid (HGD.out.below b3 HGD.out.lt)
            have HB3 := Lib.hid (HBD.out.trans (b3.mono HBD.out.size))
            clear b3 p0 p1
            go_wp2_with fail
            go_roundg g2
            case measure => omega
            case rel => exact ⟨k + 1, by omega, by go_num, by rw [HM.out], HG3.out, HB3.out⟩
      · have da : decide (0 ≤ a) = false := decide_eq_false ha
        have hs : stepB z a = z := by rw [hst.out, if_neg (fun hh => ha hh.1)]
        rw [hs] at HM
        clear hs ha hst
        go_wp2_with fail
        go_still_tail 7, (by kernel_rfl)
        change wpList _ _ _ _ _ wr.drew
        go_wp2_with fail
        refine HCV.out.mono ?_
        rintro e w3 ⟨rfl, b3⟩
        have HG3 := Lib.hid (HGD.out.below b3 HGD.out.lt)
        have HB3 := Lib.hid (HBD.out.trans (b3.mono HBD.out.size))
        clear b3 p0 p1
        go_wp2_with fail
        go_roundg g2
        case measure => omega
        case rel => exact ⟨k + 1, by omega, by go_num, by rw [HM.out], HG3.out, HB3.out⟩
end Go.Proofs.YtgbdgenlmmofeaaDoor.times
