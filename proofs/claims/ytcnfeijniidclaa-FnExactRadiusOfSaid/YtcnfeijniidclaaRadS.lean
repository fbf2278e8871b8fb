/- The contracts of the model's l2Whole and RadiusOf. -/
import Derived.Handy
import Derived.Test.YtcnfeijniidclaaRadI
import Derived.Test.YtcnfeijniidclaaParts
import Derived.Test.YtcnfeijniidclaaBallS
import Derived.Deep.DeepCutAuto
import Derived.Deep.RegionHeld3
namespace Go.Proofs.Ytcnfeijniidclaa.rad
open Go.RowKit P2 words edges ints owns good near adjs fns rets sets covs grid dists distf disto ballo reach
set_option linter.unusedVariables false

theorem all_nw (n : Nat) : nw (fun _ => true) n = allN n := by
  unfold nw allN
  rw [List.filter_eq_self.2 (fun _ _ => rfl)]
theorem ints_all {w : World} {B n : Nat} {A : Option Addr} {c : Nat} (h : w.ownsRow B 3 1 (.slice A (allN n).length c) (allN n).length (cellsI (allN n))) : Ints w (.slice A (allN n).length c) (nw (fun _ => true) n) := by
  have h_ : Ints w (.slice A (allN n).length c) (allN n) := Reads.of_own h
  rw [all_nw]; exact h_
set_option maxHeartbeats 2000000 in
set_option maxRecDepth 100000 in
theorem l2Whole_any (n : Nat) (v : Value) (l : List Ed) (w : World) (h : Edges w v l) (hl : l.length ≤ 1048576) (hn8 : n ≤ 8) :
    Calls Try.prog 59 #[.agg #[.int .i64 (n : Int), v]] w fun e w' => e = .returned (.bool (decide ((partsL n (J2 l) (fun _ => true)).length ≤ 1))) ∧ Below w.heap.size w w' := by
  obtain ⟨A, c, rfl, -⟩ := h.form
  have H := Lib.hid h
  have HB0 : Hid (Below w.heap.size w (w.alloc (.cells #[.int .i64 (n : Int), .slice A l.length c] 29))) := (Below.refl _ _).alloc (Nat.le_refl _) _
  have HG0 := Lib.hid (Blk.new w 29 #[.int .i64 (n : Int), .slice A l.length c])
  obtain ⟨p0, p1, -, -⟩ := HG0.out.two
  have HSK := Lib.hid (fun (W : World) (hW : Below (w.heap.size + 1) (w.alloc (.cells #[.int .i64 (n : Int), .slice A l.length c] 29)) W) => (⟨(hW.cell (p := ⟨w.heap.size, 0, none⟩) (Nat.lt_succ_self _)).trans p0, (hW.cell (p := ⟨w.heap.size, 1, none⟩) (Nat.lt_succ_self _)).trans p1⟩ : W.cell? ⟨w.heap.size, 0, none⟩ = some (.int .i64 (n : Int)) ∧ W.cell? ⟨w.heap.size, 1, none⟩ = some (.slice A l.length c)))
  have HD := Lib.hid (fun (W : World) (hW : Below (w.alloc (.cells #[.int .i64 (n : Int), .slice A l.length c] 29)).drew.heap.size (w.alloc (.cells #[.int .i64 (n : Int), .slice A l.length c] 29)).drew W) => (show Below (w.heap.size + 1) (w.alloc (.cells #[.int .i64 (n : Int), .slice A l.length c] 29)) W from ((Below.refl (w.alloc (.cells #[.int .i64 (n : Int), .slice A l.length c] 29)).heap.size (w.alloc (.cells #[.int .i64 (n : Int), .slice A l.length c] 29))).drew.trans hW).mono (by simp)))
  have HE := Lib.hid (fun (W : World) (hW : Below (w.alloc (.cells #[.int .i64 (n : Int), .slice A l.length c] 29)).drew.heap.size (w.alloc (.cells #[.int .i64 (n : Int), .slice A l.length c] 29)).drew W) => (HB0.out.drew.trans (hW.mono HB0.out.drew.size) : Below w.heap.size w W))
  have HZ := Lib.hid (fun (W : World) (hW : Below (w.heap.size + 1) (w.alloc (.cells #[.int .i64 (n : Int), .slice A l.length c] 29)) W) => (by have h_ := hW.size; simpa using h_ : w.heap.size + 1 ≤ W.heap.size))
  clear h
  go_enter Try.func59, Try.ntmps59
  go_wp2_with fail
  go_region_held3 (fun w' => w'.cell? ⟨w.heap.size, 0, none⟩ = some (.int .i64 (n : Int)) ∧ w'.cell? ⟨w.heap.size, 1, none⟩ = some (.slice A l.length c)) (first | go_keep | exact HSK.out _ d2 | exact HSK.out _ d1) (first
    | (go_at_call 96
       refine (l2All_any n _ _ hn8).mono ?_
       rintro e w1 ⟨A1, c1, rfl, o1, b1⟩
       have d1 := HD.out w1 b1
       have e1 := HE.out w1 b1
       have i1 := ints_all o1)
    | (go_at_call 95
       refine (l2Parts_any n (fun _ => true) _ _ l w1 (H.out.below e1) hl i1 hn8).mono ?_
       rintro e w2 ⟨A2, c2, us, rfl, o2, b2⟩
       have d2 : Below (w.heap.size + 1) (w.alloc (.cells #[.int .i64 (n : Int), .slice A l.length c] 29)) w2 := d1.trans (b2.mono (HZ.out w1 d1))
       have e2 : Below w.heap.size w w2 := e1.trans (b2.mono e1.size)))
  all_goals (go_wp2_with fail)
  all_goals go_ret
  all_goals exact ⟨ret_bool (by rw [decide_eq_decide]; omega), e2⟩
theorem okG_dec {p q : Prop} [Decidable p] (h : p ↔ q) : decide p = okG q := by
  by_cases hp : p
  · rw [okG_yes (h.1 hp), decide_eq_true hp]
  · rw [okG_no (fun hq => hp (h.2 hq)), decide_eq_false hp]
set_option maxHeartbeats 4000000 in
set_option maxRecDepth 100000 in
theorem specRad_any (s : Int) (v : Value) (l : List Ed) (w : World) (h : Edges w v l) (hl : l.length ≤ 1048576) (hs1 : -9223372036854775808 ≤ s) (hs2 : s ≤ 9223372036854775807) :
    Calls Try.prog 27 #[.agg #[.int .i64 s, v]] w fun e w' => e = .returned (.tuple #[.int .i64 (szG (RadOk s l) (radV s.toNat (J1 l) : Int)), .bool (okG (RadOk s l))]) ∧ Below w.heap.size w w' := by
  obtain ⟨A, c, rfl, -⟩ := h.form
  have H := Lib.hid h
  have b0 : Below w.heap.size w (w.alloc (.cells #[.int .i64 s, .slice A l.length c] 29)) := (Below.refl _ _).alloc (Nat.le_refl _) _
  have g0 := Blk.new w 29 #[.int .i64 s, .slice A l.length c]
  have HG := Lib.hid (l2Good_any s _ l _ (h.below b0) hl hs1 hs2)
  clear h
  by_cases hgd : P2.Good s l
  · rw [goodB_yes hgd] at HG
    have h0 := hgd.1
    have h8 := hgd.2.1
    obtain ⟨n, rfl⟩ : ∃ n : Nat, s = (n : Int) := ⟨s.toNat, by omega⟩
    rw [Int.toNat_natCast]
    have hn8 : n ≤ 8 := by omega
    by_cases hn0 : n = 0
    · subst hn0
      have hno : ¬ RadOk ((0 : Nat) : Int) l := fun hh => by have := hh.2.1; omega
      rw [okG_no hno, szG_no hno]
      clear hgd hno
      go_enter Try.func27, Try.ntmps27
      go_wp2_with fail
      refine HG.out.mono ?_
      rintro e w1 ⟨rfl, b1⟩
      have e1 := btrans b0 b1
      have g1 := g0.below b1 g0.lt
      obtain ⟨p0, p1, -, -⟩ := g1.two
      clear HG b0 b1 g0 g1
      go_wp2_with fail
      go_ret2
      exact ⟨rfl, e1⟩
    · have hn : 0 < n := by omega
      have hnz : ((n : Int) == 0) = false := by simp; omega
      have HWH := Lib.hid (fun (W : World) (hW : Below w.heap.size w W) => l2Whole_any n (.slice A l.length c) l W (H.out.below hW) hl hn8)
      by_cases hwh : Whole n (J1 l)
      · have hok : RadOk (n : Int) l := ⟨hgd, by omega, by rw [Int.toNat_natCast]; exact hwh⟩
        rw [okG_yes hok, szG_yes hok]
        have hd : decide ((partsL n (J2 l) (fun _ => true)).length ≤ 1) = true := decide_eq_true hwh
        rw [hd] at HWH
        have HPOS := Lib.hid (fun (x y : Nat) (hx : x < n) (hy : y < n) => whole_dist (J := J1 l) (fun a b => adj_comm l a b) hn hwh hx hy)
        clear hgd hok hwh hd
        go_enter Try.func27, Try.ntmps27
        go_wp2_with fail
        refine HG.out.mono ?_
        rintro e w1 ⟨rfl, b1⟩
        have e1 := btrans b0 b1
        have g1 := g0.below b1 g0.lt
        obtain ⟨p0, p1, -, -⟩ := g1.two
        have HW1 := Lib.hid (HWH.out w1 e1)
        clear HG b0 b1 g0 HWH
        go_wp2_with fail
        refine HW1.out.mono ?_
        rintro e w2 ⟨rfl, b2⟩
        have HE2 := Lib.hid (btrans e1 b2)
        have HG2 := Lib.hid (g1.below b2 g1.lt)
        clear HW1 b2 g1 e1 p0 p1
        go_wp2_with fail
        go_loopg [4] n (fun g rv wr => ∃ r : Nat, r + g = n ∧ rv = .int .i64 (r : Int) ∧ Hid (∀ r' : Nat, r' < r → ¬ Some9 n (J1 l) (r' : Int)) ∧ Blk wr w.heap.size 29 #[.int .i64 (n : Int), .slice A l.length c] ∧ Below w.heap.size w wr)
        case atStart => exact ⟨0, by omega, rfl, fun r' hr => by omega, HG2.out, HE2.out⟩
        case round =>
          clear HG2 HE2
          obtain ⟨r, hrg, rfl, hno, hgb, hB⟩ := hrel
          cases gk with
          | zero =>
            exfalso
            refine hno.out (n - 1) (by omega) ?_
            have h_ := some_last (J := J1 l) hn
            rwa [show ((n - 1 : Nat) : Int) = (n : Int) - 1 from by omega]
          | succ g2 =>
            have HG2 := Lib.hid hgb
            have HE2 := Lib.hid hB
            clear hgb hB
            go_wp2_with fail
            go_loopg [5] n (fun g xv wr => ∃ x : Nat, x + g = n ∧ xv = .int .i64 (x : Int) ∧ Hid (∀ x' : Nat, x' < x → ¬ Near9 n (J1 l) x' (r : Int)) ∧ Blk wr w.heap.size 29 #[.int .i64 (n : Int), .slice A l.length c] ∧ Below w.heap.size w wr)
            case atStart => exact ⟨0, by omega, rfl, fun x' hx => by omega, HG2.out, HE2.out⟩
            case round =>
              clear HG2 HE2
              obtain ⟨x, hxg, rfl, hnx, hgb, hB⟩ := hrel
              obtain ⟨p0, p1, -, -⟩ := hgb.two
              cases gk with
              | zero =>
                obtain rfl : x = n := by omega
                have HN : Hid (∀ r' : Nat, r' < r + 1 → ¬ Some9 x (J1 l) (r' : Int)) := fun r' hr => by
                  by_cases e : r' = r
                  · subst e; rintro ⟨x', hx', hh⟩; exact hnx.out x' hx' hh
                  · exact hno.out r' (by omega)
                have HG2 := Lib.hid hgb
                have HE2 := Lib.hid hB
                clear hgb hB hnx
                go_wp2_with fail
                go_roundg g2
                case measure => omega
                case rel => exact ⟨r + 1, by omega, by go_num, HN, HG2.out, HE2.out⟩
              | succ g4 =>
                have hxn : x < n := by omega
                have hxn' : (x : Int) < (n : Int) := by omega
                have HI := Lib.hid (l2Within_any n x (r : Int) (.slice A l.length c) l wr.drew (H.out.below hB.drew) hl hn8 hxn)
                have HBA := Lib.hid (ball_all (J := J1 l) (r := (r : Int)) hxn (fun y hy => HPOS.out x y hxn hy))
                have HSK := Lib.hid (fun (W : World) (hW : Below wr.heap.size wr W) => (⟨(hW.cell (p := ⟨w.heap.size, 0, none⟩) hgb.lt).trans p0, (hW.cell (p := ⟨w.heap.size, 1, none⟩) hgb.lt).trans p1⟩ : W.cell? ⟨w.heap.size, 0, none⟩ = some (.int .i64 (n : Int)) ∧ W.cell? ⟨w.heap.size, 1, none⟩ = some (.slice A l.length c)))
                have HGB := Lib.hid hgb
                have HB := Lib.hid hB
                clear hgb hB
                by_cases hne : Near9 n (J1 l) x (r : Int)
                · have hlen : (ballL n l x (r : Int)).length = n := HBA.out.2 hne
                  have d0 : (((ballL n l x (r : Int)).length : Int) == (n : Int)) = true := by rw [hlen]; simp
                  have d1 : ((ballL n l x (r : Int)).length : Int) = (n : Int) := by omega
                  have HV : Hid (radV n (J1 l) = r) := rad_eq (by omega) ⟨x, hxn, hne⟩ hno.out
                  clear hlen hne HBA hno hnx
                  go_wp2_with fail
                  go_region_held3 (fun w' => w'.cell? ⟨w.heap.size, 0, none⟩ = some (.int .i64 (n : Int)) ∧ w'.cell? ⟨w.heap.size, 1, none⟩ = some (.slice A l.length c)) (first | go_keep | exact HSK.out _ d3) (first
                    | (go_at_call 48; refine HI.out.mono ?_; rintro e w3 ⟨A3, c3, rfl, o3, b3⟩; have d3 : Below wr.heap.size wr w3 := (Below.refl _ _).drew.trans b3))
                  all_goals (go_wp2_with fail)
                  all_goals (go_ret2; rw [HV.out]; exact ⟨rfl, btrans HB.out d3⟩)
                · have d1 : ¬ ((ballL n l x (r : Int)).length : Int) = (n : Int) := by
                    intro hh
                    have h_ : (ballL n l x (r : Int)).length = n := by omega
                    exact hne (HBA.out.1 h_)
                  have d0 : (((ballL n l x (r : Int)).length : Int) == (n : Int)) = false := by simpa using d1
                  have HN : Hid (∀ x' : Nat, x' < x + 1 → ¬ Near9 n (J1 l) x' (r : Int)) := fun x' hx' => by
                    by_cases e : x' = x
                    · subst e; exact hne
                    · exact hnx.out x' (by omega)
                  clear hne HBA hnx
                  go_wp2_with fail
                  go_region_held3 (fun w' => w'.cell? ⟨w.heap.size, 0, none⟩ = some (.int .i64 (n : Int)) ∧ w'.cell? ⟨w.heap.size, 1, none⟩ = some (.slice A l.length c)) (first | go_keep | exact HSK.out _ d3) (first
                    | (go_at_call 48; refine HI.out.mono ?_; rintro e w3 ⟨A3, c3, rfl, o3, b3⟩; have d3 : Below wr.heap.size wr w3 := (Below.refl _ _).drew.trans b3))
                  all_goals (go_wp2_with fail)
                  all_goals
                    go_roundg g4
                    case measure => omega
                    case rel => exact ⟨x + 1, by omega, by go_num, HN, HGB.out.below d3 HGB.out.lt, btrans HB.out d3⟩
      · have hno : ¬ RadOk (n : Int) l := fun hh => hwh (by have := hh.2.2; rwa [Int.toNat_natCast] at this)
        rw [okG_no hno, szG_no hno]
        have hd : decide ((partsL n (J2 l) (fun _ => true)).length ≤ 1) = false := decide_eq_false hwh
        rw [hd] at HWH
        clear hgd hno hwh hd
        go_enter Try.func27, Try.ntmps27
        go_wp2_with fail
        refine HG.out.mono ?_
        rintro e w1 ⟨rfl, b1⟩
        have e1 := btrans b0 b1
        have g1 := g0.below b1 g0.lt
        obtain ⟨p0, p1, -, -⟩ := g1.two
        have HW1 := Lib.hid (HWH.out w1 e1)
        clear HG b0 b1 g0 HWH
        go_wp2_with fail
        refine HW1.out.mono ?_
        rintro e w2 ⟨rfl, b2⟩
        have e2 := btrans e1 b2
        go_wp2_with fail
        go_ret2
        exact ⟨rfl, e2⟩
  · rw [goodB_no hgd] at HG
    have hno : ¬ RadOk s l := fun hh => hgd hh.1
    rw [okG_no hno, szG_no hno]
    clear hgd hno
    go_enter Try.func27, Try.ntmps27
    go_wp2_with fail
    refine HG.out.mono ?_
    rintro e w1 ⟨rfl, b1⟩
    have e1 := btrans b0 b1
    go_wp2_with fail
    go_ret2
    exact ⟨rfl, e1⟩
end Go.Proofs.Ytcnfeijniidclaa.rad
