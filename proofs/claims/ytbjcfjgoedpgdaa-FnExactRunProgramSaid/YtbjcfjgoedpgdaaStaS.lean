/- The contracts of the model's l6Begin, l6Can, l6Spread and l6Step. -/
import Derived.Handy
import Derived.Test.YtbjcfjgoedpgdaaMomM
import Derived.Test.YtbjcfjgoedpgdaaReach
import Derived.Test.YtbjcfjgoedpgdaaPartM
import Derived.Test.YtbjcfjgoedpgdaaSets
import Derived.Test.YtbjcfjgoedpgdaaNearV
import Derived.Deep.DeepCutAuto
import Derived.Maps.AppendAt
import Derived.StillTailTactics
namespace Go.Proofs.Ytbjcfjgoedpgdaa.moms
open Go.RowKit Go.Maps P2 words edges ints good near adjs fns rets sets covs reach bags balls
set_option linter.unusedVariables false

theorem allN_nw (n : Nat) : allN n = nw (fun _ => true) n := (nw_all n _ fun _ _ => rfl).symm
theorem nw_none0 (n : Nat) : nw (fun _ => false) n = [] := nw_none n
/-- a state: two sets, in rows of the call's own -/
def OwnP (w : World) (B n : Nat) (a b : Value) (S U : Nat → Bool) : Prop :=
  w.ownsRow B 3 1 a (nw S n).length (cellsI (nw S n)) ∧ w.ownsRow B 3 1 b (nw U n).length (cellsI (nw U n))
theorem OwnP.below {w w' : World} {B n : Nat} {a b : Value} {S U : Nat → Bool} (h : OwnP w B n a b S U) (hb : Below w.heap.size w w') : OwnP w' B n a b S U := ⟨own_below h.1 hb, own_below h.2 hb⟩
theorem OwnP.base {w : World} {B C n : Nat} {a b : Value} {S U : Nat → Bool} (h : OwnP w B n a b S U) (hC : C ≤ B) : OwnP w C n a b S U := ⟨own_base h.1 hC, own_base h.2 hC⟩
set_option maxRecDepth 100000 in
theorem l6Begin_any (n : Nat) (v : Value) (w : World) (hn : n ≤ 8) :
    Calls Try.prog 83 #[.agg #[.int .i64 (n : Int), v]] w fun e w' => ∃ a b, e = .returned (.agg #[a, b]) ∧ OwnP w' w.heap.size n a b (fun _ => false) (fun _ => true) ∧ Below w.heap.size w w' := by
  have HB0 : Hid (Below w.heap.size w ((w.alloc (.cells #[.int .i64 (n : Int), v] 29)).alloc (.cells #[.slice none 0 0, .slice none 0 0] 69))) := ((Below.refl _ _).alloc (Nat.le_refl _) _).alloc (by simp) _
  obtain ⟨p0, p1, -, -⟩ := ((Blk.new w 29 #[.int .i64 (n : Int), v]).alloc (.cells #[.slice none 0 0, .slice none 0 0] 69)).two
  have g1 := (Blk.new (w.alloc (.cells #[.int .i64 (n : Int), v] 29)) 69 #[.slice none 0 0, .slice none 0 0])
  rw [World.size_alloc] at g1
  go_enter Try.func83, Try.ntmps83
  go_wp2_with fail
  refine (l2All_any n v _ hn).mono ?_
  rintro e w2 ⟨A2, c2, rfl, o2, b2⟩
  have HB2 := Lib.hid (btrans HB0.out b2)
  have g2 := g1.below b2 (by simp)
  obtain ⟨q0, q1, z0, z1⟩ := g2.two
  have HO := Lib.hid (own_base (B' := w.heap.size) o2 (by simp; omega))
  have HG2 := Lib.hid g2
  clear g1 g2 b2 o2 p0 p1
  go_wp2_with fail
  refine bodyPost_ret (v := .agg #[.slice none 0 0, .slice A2 (allN n).length c2]) (by simp [results, Try.results83, go_sem, q0, q1]) rfl ?_
  have hk : w2.grownBy ((w2.setCell ⟨w.heap.size + 1, 0, none⟩ (.slice none 0 0)).setCell ⟨w.heap.size + 1, 1, none⟩ (.slice A2 (allN n).length c2)) (some (w.heap.size + 1)) := gset (gset (World.grownBy.refl w2 _) 0 _) 1 _
  have hne : (Value.slice A2 (allN n).length c2).ownBlock = none ∨ (Value.slice A2 (allN n).length c2).ownBlock ≠ some (w.heap.size + 1) := .inr (mids.own_ne HO.out HG2.out (by decide))
  have hO2 := HO.out.kept hk hne
  refine ⟨_, _, rfl, ⟨?_, ?_⟩, ?_⟩
  · rw [nw_none0]; exact World.ownsRow_nil _ _ _ _
  · rw [← allN_nw]; exact hO2
  · exact (HB2.out.setCell (p := ⟨w.heap.size + 1, 0, none⟩) (Nat.le_succ _) _).setCell (p := ⟨w.heap.size + 1, 1, none⟩) (Nat.le_succ _) _
theorem mem_nwB {S : Nat → Bool} {n x : Nat} (hx : x < n) : decide ((x : Int) ∈ nw S n) = S x := by
  rw [Bool.eq_iff_iff, decide_eq_true_iff, mem_nw]
  constructor
  · rintro ⟨j, _, hj, e⟩
    have e2 : x = j := by omega
    rw [e2]; exact hj
  · intro h; exact ⟨x, hx, h, rfl⟩
set_option maxHeartbeats 1000000 in
set_option maxRecDepth 100000 in
theorem l6Can_any (n : Nat) (S : Nat → Bool) (v a b : Value) (l : List Ed) (st : Int) (w : World) (h : Edges w v l) (ha : Ints w a (nw S n)) (hn : n ≤ 8) (h64 : In64 st) :
    Calls Try.prog 84 #[.agg #[.int .i64 (n : Int), v], .agg #[a, b], .int .i64 st] w fun e w' => e = .returned (.bool (okG (StepOk n S st))) ∧ Below w.heap.size w w' := by
  obtain ⟨A, c, rfl, -⟩ := h.form
  have hal := nw_len S n
  have hb0 : Below w.heap.size w ((w.alloc (.cells #[.int .i64 (n : Int), .slice A l.length c] 29)).alloc (.cells #[a, b] 69)) := ((Below.refl _ _).alloc (Nat.le_refl _) _).alloc (by simp) _
  have g0 := (Blk.new w 29 #[.int .i64 (n : Int), .slice A l.length c]).alloc (.cells #[a, b] 69)
  have g1 := (Blk.new (w.alloc (.cells #[.int .i64 (n : Int), .slice A l.length c] 29)) 69 #[a, b])
  rw [World.size_alloc] at g1
  have HHS := Lib.hid (fun (W : World) (hW : Below w.heap.size w W) (x : Int) => l1Has_any a (nw S n) x W (ha.below hW) (by omega))
  have HND := Lib.hid (l2Node_any (n : Int) st (.slice A l.length c) l _ (h.below hb0) (by omega) (by omega))
  have HB0 := Lib.hid hb0
  obtain ⟨A5, c5, rfl, -⟩ := ha.form
  clear h ha hb0
  by_cases h0 : 0 ≤ st
  · have hst := xOf_pos h0
    have hd0 : ¬ st < 0 := by omega
    by_cases hlt : st < (n : Int)
    · have hin : inB st 0 ((n : Int) - 1) = true := by simp [inB]; omega
      rw [hin] at HND
      have hh := mem_nwB (S := S) (n := n) (x := xOf st) (by omega)
      rw [hst] at hh
      have HV : Hid (okG (StepOk n S st) = !decide (st ∈ nw S n)) := by
        show _ = _
        rw [hh, Bool.eq_iff_iff, okG_iff]
        unfold StepOk
        rw [decide_eq_false hd0, Bool.not_eq_true']
        exact ⟨fun h => h.2, fun h => ⟨by omega, h⟩⟩
      rw [HV.out]
      clear hin hh hst HV
      generalize (nw S n).length = al at *
      generalize hmem : decide (st ∈ nw S n) = mb at *
      have HM := Lib.hid hmem
      clear hmem
      go_enter Try.func84, Try.ntmps84
      obtain ⟨p0, p1, -, -⟩ := g0.two
      go_wp2_with fail
      refine HND.out.mono ?_
      rintro e w2 ⟨rfl, b2⟩
      have HB2 := Lib.hid (btrans HB0.out b2)
      obtain ⟨q0, q1, -, -⟩ := (g1.below b2 (by simp)).two
      have HH := Lib.hid (HHS.out w2 HB2.out st)
      rw [HM.out] at HH
      clear b2 g0 g1 p0 p1
      go_wp2_with fail
      refine HH.out.mono ?_
      rintro e w' ⟨rfl, rfl⟩
      go_wp2_with fail
      go_ret
      exact ⟨rfl, HB2.out⟩
    · have hin : inB st 0 ((n : Int) - 1) = false := by simp [inB]; omega
      rw [hin] at HND
      have HV : Hid (okG (StepOk n S st) = false) := okG_no fun h => by have := h.1; omega
      rw [HV.out]
      clear hin HV hst
      go_enter Try.func84, Try.ntmps84
      obtain ⟨p0, p1, -, -⟩ := g0.two
      go_wp2_with fail
      refine HND.out.mono ?_
      rintro e w2 ⟨rfl, b2⟩
      have HB2 := Lib.hid (btrans HB0.out b2)
      go_wp2_with fail
      go_ret
      exact ⟨rfl, HB2.out⟩
  · have hst := xOf_neg (st := st) (by omega)
    have hd0 : st < 0 := by omega
    have hw1 : IntKind.i64.wrap (-(n : Int)) = -(n : Int) := IntWalk.i64_in _ (by omega)
    have hw2 : IntKind.i64.wrap (-1 - st) = (xOf st : Int) := by rw [← hst]; exact IntWalk.i64_in _ (by unfold In64 at h64; unfold xOf; omega)
    by_cases hge : -(n : Int) ≤ st
    · have hh := mem_nwB (S := S) (n := n) (x := xOf st) (by omega)
      have HV : Hid (okG (StepOk n S st) = decide ((xOf st : Int) ∈ nw S n)) := by
        show _ = _
        rw [hh, Bool.eq_iff_iff, okG_iff]
        unfold StepOk
        rw [decide_eq_true hd0]
        exact ⟨fun h => h.2, fun h => ⟨by omega, h⟩⟩
      rw [HV.out]
      clear hh hst HV
      generalize (nw S n).length = al at *
      generalize hmem : decide ((xOf st : Int) ∈ nw S n) = mb at *
      have HM := Lib.hid hmem
      clear hmem
      go_enter Try.func84, Try.ntmps84
      obtain ⟨p0, p1, -, -⟩ := g0.two
      obtain ⟨q0, q1, -, -⟩ := g1.two
      have HH := Lib.hid (HHS.out _ HB0.out (xOf st : Int))
      rw [HM.out] at HH
      go_wp2_with fail
      refine HH.out.mono ?_
      rintro e w' ⟨rfl, rfl⟩
      go_wp2_with fail
      go_ret
      exact ⟨rfl, HB0.out⟩
    · have HV : Hid (okG (StepOk n S st) = false) := okG_no fun h => by have := h.1; omega
      rw [HV.out]
      clear HV hst
      go_enter Try.func84, Try.ntmps84
      obtain ⟨p0, p1, -, -⟩ := g0.two
      obtain ⟨q0, q1, -, -⟩ := g1.two
      go_wp2_with fail
      go_ret
      exact ⟨rfl, HB0.out⟩
set_option maxHeartbeats 8000000 in
set_option maxRecDepth 100000 in
theorem l6Spread_any (n : Nat) (S U : Nat → Bool) (v a b : Value) (l : List Ed) (w : World) (h : Edges w v l) (hl : l.length ≤ 1048576) (ha : Ints w a (nw S n)) (hb : Ints w b (nw U n)) (hn : n ≤ 8) :
    Calls Try.prog 93 #[.agg #[.int .i64 (n : Int), v], a, b] w (RowI w (nw (spr n l S U) n)) := by
  obtain ⟨i0, hi, hz0, hz1, hz2⟩ := info_parts infoInt
  obtain ⟨A, c, rfl, -⟩ := h.form
  obtain ⟨A2, c2, rfl, -⟩ := ha.form
  obtain ⟨A3, c3, rfl, hc3⟩ := hb.form
  have H := Lib.hid h
  have HA := Lib.hid ha
  have HC3 := Lib.hid hc3
  have hal := nw_len S n
  have hbl := nw_len U n
  have HHS := Lib.hid (fun (W : World) (hW : Below w.heap.size w W) (x : Int) => l1Has_any _ (nw S n) x W (ha.below hW) (by omega))
  have HB0 : Hid (Below w.heap.size w (((w.alloc (.cells #[.int .i64 (n : Int), .slice A l.length c] 29)).alloc (.cells #[] 3)).alloc (.cells #[] 3))) := (((Below.refl _ _).alloc (Nat.le_refl _) _).alloc (by simp) _).alloc (by simp; omega) _
  have HG0 := Lib.hid (((Blk.new w 29 #[.int .i64 (n : Int), .slice A l.length c]).alloc (.cells #[] 3)).alloc (.cells #[] 3))
  have HF0 : Hid ((((w.alloc (.cells #[.int .i64 (n : Int), .slice A l.length c] 29)).alloc (.cells #[] 3)).alloc (.cells #[] 3)).ownsRow (w.heap.size + 1) 3 1 (.slice (some ⟨w.heap.size + 1, 0, none⟩) 0 0) (nw (fun z => !S z) 0).length (cellsI (nw (fun z => !S z) 0))) := by
    have h_ := own_new0 (w.alloc (.cells #[.int .i64 (n : Int), .slice A l.length c] 29)) 3 1
    rw [World.size_alloc] at h_
    exact h_.alloc _
  have HOB : Hid (Blk (((w.alloc (.cells #[.int .i64 (n : Int), .slice A l.length c] 29)).alloc (.cells #[] 3)).alloc (.cells #[] 3)) (w.heap.size + 1 + 1) 3 #[]) := by
    have h_ := Blk.new ((w.alloc (.cells #[.int .i64 (n : Int), .slice A l.length c] 29)).alloc (.cells #[] 3)) 3 #[]
    rw [World.size_alloc, World.size_alloc] at h_
    exact h_
  clear h ha hb hc3
  go_enter Try.func93, Try.ntmps93
  go_wp2_with fail
  go_loopg [7, 9] n (fun g fv iv wr => ∃ (k : Nat) (fw : Value), fw = fv ∧ k + g = n ∧ iv = .int .i64 (k : Int) ∧ wr.ownsRow (w.heap.size + 1) 3 1 fw (nw (fun z => !S z) k).length (cellsI (nw (fun z => !S z) k)) ∧ Hid (fw.ownBlock ≠ some (w.heap.size + 1 + 1)) ∧ Blk wr (w.heap.size + 1 + 1) 3 #[] ∧ Blk wr w.heap.size 29 #[.int .i64 (n : Int), .slice A l.length c] ∧ Below w.heap.size w wr)
  case atStart => exact ⟨0, _, rfl, by omega, rfl, HF0.out, (by show Value.ownBlock _ ≠ _; simp [Value.ownBlock]), HOB.out, HG0.out, HB0.out⟩
  case round =>
    clear HF0 HOB HG0 HB0
    obtain ⟨k, fw, rfl, hkg, rfl, hrow, hne, hob, hgb, hB⟩ := hrel
    obtain ⟨A4, c4, rfl⟩ := own_form hrow
    obtain ⟨p0, p1, -, -⟩ := hgb.two
    have hpl := nw_len (fun z => !S z) k
    have hsz := hob.lt
    cases gk with
    | zero =>
      obtain rfl : k = n := by omega
      obtain ⟨wo, hwo⟩ : ∃ wo, wo = wr := ⟨_, rfl⟩
      subst hwo
      have HF := Lib.hid (Reads.of_own hrow)
      have HO0 : Hid (wo.ownsRow w.heap.size 3 1 (.slice (some ⟨w.heap.size + 1 + 1, 0, none⟩) 0 0) (nw (fun _ => false) k).length (cellsI (nw (fun _ => false) k))) := by
        show World.ownsRow _ _ _ _ _ _ _
        rw [nw_none0]
        exact ⟨rfl, .inr ⟨w.heap.size + 1 + 1, 0, #[], rfl, by omega, hob, Nat.le_refl _, Nat.zero_le _, rfl, rfl⟩⟩
      have HG1 := Lib.hid hgb
      have HB1 := Lib.hid hB
      have HP0 := Lib.hid (SpI.start k l S (nw U k))
      clear hrow hne hob hgb hB hpl
      go_wp2_with fail
      go_loopg [8, 10] (nw U k).length (fun g ov iv wr => ∃ (i : Nat) (p : Nat → Bool) (ow : Value), ow = ov ∧ i + g = (nw U k).length ∧ iv = .int .i64 (i : Int) ∧ Hid (SpI k l S (nw U k) i p) ∧ wr.ownsRow w.heap.size 3 1 ow (nw p k).length (cellsI (nw p k)) ∧ Below wo.heap.size wo wr)
      case atStart => exact ⟨0, _, _, rfl, by omega, rfl, HP0, HO0.out, Below.refl _ _⟩
      case round =>
        clear HO0 HP0
        obtain ⟨i, p, ow, rfl, hig, rfl, hsp, hrow, hB2⟩ := hrel
        obtain ⟨A6, c6, rfl⟩ := own_form hrow
        have hpl := nw_len p k
        cases gk with
        | zero =>
          obtain rfl : i = (nw U k).length := by omega
          have HALL := Lib.hid hsp.out.all
          have HR := Lib.hid hrow
          have HB2 := Lib.hid (btrans HB1.out hB2)
          clear hrow hB2 hsp
          go_wp2_with fail
          go_ret
          rw [← HALL.out]
          exact ⟨A6, c6, rfl, HR.out, HB2.out⟩
        | succ g2 =>
          have hilt : (i : Int) < ((nw U k).length : Int) := by omega
          obtain ⟨yv, hyv⟩ : ∃ yv, (nw U k)[i]? = some yv := ⟨_, List.getElem?_eq_getElem (by omega)⟩
          obtain ⟨y, rfl, hyn, hUy⟩ := nw_at hyv
          obtain ⟨g5, o5, rfl, c5⟩ := HC3.out i _ hyv
          have q5 := nearv.cell_keep (nearv.cell_keep c5 HB1.out) hB2
          have HH := Lib.hid (HHS.out wr (btrans HB1.out hB2) (y : Int))
          rw [mem_nwB hyn] at HH
          have HR := Lib.hid hrow
          have HB2 := Lib.hid hB2
          have HG2 := Lib.hid (HG1.out.below hB2 HG1.out.lt)
          have HYV := Lib.hid hyv
          have HC5 := Lib.hid c5
          clear hrow hB2 hyv c5
          cases hS : S y with
          | true =>
            have HN := Lib.hid (hsp.out.skip HYV.out hS)
            rw [hS] at HH
            clear hS
            go_wp2_with fail
            refine HH.out.mono ?_
            rintro e w' ⟨rfl, rfl⟩
            go_wp2_with fail
            go_roundg g2
            case measure => omega
            case rel => exact ⟨i + 1, p, _, rfl, by omega, by go_num, HN, HR.out, HB2.out⟩
          | false =>
            have HTK := Lib.hid (fun (p' : Nat → Bool) (hp : ∀ z, z < k → (p' z = true ↔ p z = true ∨ reachB k (bags.J2 l) (fun z => !S z) y z = true)) => hsp.out.take HYV.out hS hp)
            have HRC := Lib.hid (l2Reach_any k y (fun z => !S z) (.slice A l.length c) (.slice A4 (nw (fun z => !S z) k).length c4) l wr.drew (H.out.below (btrans HB1.out HB2.out).drew) hl (show Ints _ _ _ from HF.out.below (HB2.out.drew)) hn hyn (by simp [hS]))
            obtain ⟨r0, r1, -, -⟩ := HG2.out.two
            rw [hS] at HH
            have HRE : Hid (∀ z, reachB k (reach.J2 l) (fun z => !S z) y z = reachB k (bags.J2 l) (fun z => !S z) y z) := fun z => rfl
            have hrl := nw_len (reachB k (reach.J2 l) (fun z => !S z) y) k
            clear hS hsp
            generalize reachB k (reach.J2 l) (fun z => !S z) y = rb at *
            go_wp2_with fail
            refine HH.out.mono ?_
            rintro e w' ⟨rfl, rfl⟩
            go_wp2_with fail
            go_still_tail 6, (by kernel_rfl)
            change wpList _ _ _ _ _ wr.drew
            go_wp2_with fail
            refine HRC.out.mono ?_
            rintro e w3 ⟨A7, c7, rfl, o7, b7⟩
            have d7 : Below wr.heap.size wr w3 := (Below.refl _ _).drew.trans b7
            have HR3 := Lib.hid (own_below HR.out d7)
            have HB3 := Lib.hid (btrans HB2.out d7)
            have HPT := Lib.hid (Reads.of_own o7)
            have HG0 := Lib.hid (Got.zero (n := k) p rb)
            clear b7 d7 o7 q5 r0 r1
            go_wp2_with fail
            go_loopg [8, 12] (nw rb k).length (fun g ov jv wi => ∃ (j : Nat) (p' : Nat → Bool) (ow : Value), ow = ov ∧ j + g = (nw rb k).length ∧ jv = .int .i64 (j : Int) ∧ Hid (Got k p rb j p') ∧ wi.ownsRow w.heap.size 3 1 ow (nw p' k).length (cellsI (nw p' k)) ∧ Below w3.heap.size w3 wi)
            case atStart => exact ⟨0, p, _, rfl, by omega, rfl, HG0, HR3.out, Below.refl _ _⟩
            case round =>
              clear HR3 HG0
              obtain ⟨j, p', ow, rfl, hjg, rfl, hgt, hrow, hB4⟩ := hrel
              obtain ⟨A8, c8, rfl⟩ := own_form hrow
              have hpl' := nw_len p' k
              cases gk with
              | zero =>
                obtain rfl : j = (nw rb k).length := by omega
                have HN : Hid (SpI k l S (nw U k) (i + 1) p') := HTK.out p' fun z hz => by
                  rw [← HRE.out z]; exact hgt.out.all z hz
                have HR8 := Lib.hid hrow
                have HB8 := Lib.hid (btrans HB3.out hB4)
                clear hrow hB4 hgt
                go_wp2_with fail
                go_roundg g2
                case measure => omega
                case rel => exact ⟨i + 1, p', _, rfl, by omega, by go_num, HN, HR8.out, HB8.out⟩
              | succ g4 =>
                have hjt' : (j : Int) < ((nw rb k).length : Int) := by omega
                obtain ⟨zv, hzv⟩ : ∃ zv, (nw rb k)[j]? = some zv := ⟨_, List.getElem?_eq_getElem (by omega)⟩
                obtain ⟨z, rfl, hzn, hrz⟩ := nw_at hzv
                obtain ⟨_, _, hf9, hcc9⟩ := (show Ints wr (.slice A7 (nw rb k).length c7) (nw rb k) from HPT.out.below hB4).form
                cases hf9
                obtain ⟨g9, o9, rfl, q9⟩ := hcc9 j _ hzv
                have HPU := Lib.hid (l1Put_own _ (nw p' k) (z : Int) wr w.heap.size hrow (Nat.le_trans (btrans HB1.out HB3.out).size hB4.size) (by omega) (nw_asc _ _))
                have HN := Lib.hid (hgt.out.succ hzv)
                have HB4 := Lib.hid hB4
                clear hrow hB4 hgt hzv hcc9
                go_wp2_with fail
                refine HPU.out.mono ?_
                rintro e w8 ⟨L, A9, c9, rfl, hp9, ow9, b9⟩
                have HL := Lib.hid (pput_is hp9 hzn)
                have HO9 := Lib.hid ow9
                have HB9 := Lib.hid (btrans HB4.out b9)
                clear hp9 ow9 b9
                go_wp2_with fail
                go_roundg g4
                case measure => omega
                case rel => exact ⟨j + 1, pput p' z, _, rfl, by omega, by go_num, HN, by rw [← HL.out]; exact HO9.out, HB9.out⟩
    | succ g2 =>
      have hlt : k < n := by omega
      have hlt' : (k : Int) < (n : Int) := by omega
      have HH := Lib.hid (HHS.out wr hB (k : Int))
      rw [mem_nwB hlt] at HH
      have HR := Lib.hid hrow
      have HNE := Lib.hid hne.out
      have HOB := Lib.hid hob
      have HG := Lib.hid hgb
      have HB := Lib.hid hB
      clear hrow hne hob hgb hB
      cases hS : S k with
      | true =>
        have HN := Lib.hid (nw_no (p := fun z => !S z) (k := k) (by simp [hS]))
        rw [hS] at HH
        clear hS
        go_wp2_with fail
        refine HH.out.mono ?_
        rintro e w' ⟨rfl, rfl⟩
        go_wp2_with fail
        go_roundg g2
        case measure => omega
        case rel => exact ⟨k + 1, _, rfl, by omega, by go_num, by rw [HN.out]; exact HR.out, HNE, HOB.out, HG.out, HB.out⟩
      | false =>
        have HN := Lib.hid (nw_yes (p := fun z => !S z) (k := k) (by simp [hS]))
        rw [hS] at HH
        clear hS
        generalize nw (fun z => !S z) k = m at *
        go_wp2_with fail
        refine HH.out.mono ?_
        rintro e w' ⟨rfl, rfl⟩
        go_wp2_with (at_builtin; refine wpList_append_own_at _ rfl _ _ 25 rfl (w.heap.size + 1) 3 i0 (.int .i64 0) 1 8 Try.underlying25 hi hz0 hz1 hz2 rfl (by decide) _ _ _ rfl (HR.out.alloc _) ⟨wr.heap.size, 0, none⟩ 1 1 [.int .i64 ((k : Int))] rfl rfl (cell_one_new _ _ _) (fun x hx => by simp at hx; subst hx; rfl) (by unfold maxLen; omega) (by omega) (by simp; omega) ?_; intro v2 w2 hown2 hgrow2 _ hl2)
        obtain ⟨hown3, hB3⟩ := push1 HR.out hown2 hgrow2 (by omega)
        have HNE2 : Hid (v2.ownBlock ≠ some (w.heap.size + 1 + 1)) := by
          show v2.ownBlock ≠ _
          rcases hl2 with e | e
          · rw [e]; exact HNE.out
          · rw [e]; simp; omega
        have HOB2 := Lib.hid ((HOB.out.alloc (.cells #[.int .i64 (k : Int)] 3)).grown hgrow2 (fun e => HNE.out e.symm))
        have HG2 := Lib.hid (HG.out.below hB3 (by omega))
        have HB2 := Lib.hid (HB.out.trans (hB3.mono (by omega)))
        clear hgrow2 hown2 hl2 hB3
        go_roundg g2
        case measure => omega
        case rel => exact ⟨k + 1, _, rfl, by omega, by go_num, by rw [HN.out]; exact hown3, HNE2, HOB2.out, HG2.out, HB2.out⟩
end Go.Proofs.Ytbjcfjgoedpgdaa.moms
