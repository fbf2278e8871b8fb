/- The contracts of the model's l8Far, IsFarSet, l8Largest and LargestFarSet. -/
import Derived.Handy
import Derived.Test.YtnmidgnkjpcpgaaBalI
import Derived.Test.YtnmidgnkjpcpgaaLspS
import Derived.Deep.DeepCutAuto
import Derived.Deep.RegionHeld3
import Derived.Deep.QuietTactic
namespace Go.Proofs.Ytnmidgnkjpcpgaa.ups
open Go.RowKit P2 words edges ints good adjs fns sets rets covs bags balls bitsI func grid dists
set_option linter.unusedVariables false

theorem gridU_cell {w : World} {B i n c : Nat} {A : Option Addr} {us : List Value} {u : Value} (h : w.ownsRow B 25 1 (.slice A n c) n us) (hu : us[i]? = some u) :
    ∃ g, A = some ⟨g, 0, none⟩ ∧ w.cell? ⟨g, i, none⟩ = some u := by
  have hi := (List.getElem?_eq_some_iff.1 hu).1
  have hl := h.1
  rcases h.2 with ⟨hf, _⟩ | ⟨g, cap, cur, hf, _⟩
  · have := congrArg (fun v => match v with | .slice _ n _ => n | _ => 0) hf
    simp at this
    omega
  · obtain ⟨rfl, rfl⟩ : A = some ⟨g, 0, none⟩ ∧ c = cap := by simpa using hf
    have := h.cellAt i (by omega)
    rw [hu] at this
    exact ⟨g, rfl, this⟩
/-- a number of the table of distances -/
theorem distU_cell {w : World} {B n x y c : Nat} {A : Option Addr} {us : List Value} {l : List Ed} (h : OwnG w B (.slice A (distG n l).length c) us (distG n l)) (hx : x < n) (hy : y < n) :
    ∃ g gr gx c5, A = some ⟨g, 0, none⟩ ∧ w.cell? ⟨g, x, none⟩ = some (.slice (some ⟨gr, gx, none⟩) n c5) ∧ w.cell? ⟨gr, gx + y, none⟩ = some (.int .i64 (fn (dist n (J2 l) x) y)) := by
  obtain ⟨u5, hu5, o5⟩ := h.row (show (distG n l)[x]? = some (dist n (J2 l) x) from by unfold distG distTo; simp [hx]; rfl)
  obtain ⟨A5, c5, rfl⟩ := own_form o5
  obtain ⟨g, e, f5⟩ := gridU_cell h.1 hu5
  have hd := dist_len (J2 l) hx
  have hi : Ints w (.slice A5 (dist n (J2 l) x).length c5) (dist n (J2 l) x) := Reads.of_own o5
  obtain ⟨_, _, hf, hcc⟩ := hi.form
  cases hf
  obtain ⟨g6, o6, rfl, q6⟩ := hcc y _ (fn_get (by omega))
  rw [hd] at f5
  exact ⟨g, g6, o6, c5, e, f5, q6⟩
/-- no two of a list are so near, the first one among the first i -/
def FarL (n : Nat) (l : List Ed) (r : Nat) (xs : List Int) (i : Nat) : Prop := ∀ (a b : Nat) (x y : Int), a < i → b < a → xs[a]? = some x → xs[b]? = some y → inB (fn (dist n (J2 l) x.toNat) y.toNat) 0 (r : Int) = false
def FarI (n : Nat) (l : List Ed) (r : Nat) (xs : List Int) (i j : Nat) : Prop := FarL n l r xs i ∧ ∀ (b : Nat) (x y : Int), b < j → xs[i]? = some x → xs[b]? = some y → inB (fn (dist n (J2 l) x.toNat) y.toNat) 0 (r : Int) = false
theorem FarL.inner {n : Nat} {l : List Ed} {r : Nat} {xs : List Int} {i : Nat} (h : FarL n l r xs i) : FarI n l r xs i 0 := ⟨h, fun b x y hb => by omega⟩
theorem FarI.next {n : Nat} {l : List Ed} {r : Nat} {xs : List Int} {i j x y : Nat} (h : FarI n l r xs i j) (hx : xs[i]? = some (x : Int)) (hy : xs[j]? = some (y : Int)) (hi : inB (fn (dist n (J2 l) x) y) 0 (r : Int) = false) : FarI n l r xs i (j + 1) :=
  ⟨h.1, fun b x' y' hb h1 h2 => by
    by_cases e : b = j
    · subst e; rw [hx] at h1; rw [hy] at h2; cases h1; cases h2; rw [Int.toNat_natCast, Int.toNat_natCast]; exact hi
    · exact h.2 b x' y' (by omega) h1 h2⟩
theorem FarI.all {n : Nat} {l : List Ed} {r : Nat} {xs : List Int} {i : Nat} (h : FarI n l r xs i i) : FarL n l r xs (i + 1) := fun a b x y h1 h2 h3 h4 => by
  by_cases e : a = i
  · subst e; exact h.2 b x y h2 h3 h4
  · exact h.1 a b x y (by omega) h2 h3 h4
theorem inB_wk {l : List Ed} {n r x y : Nat} (hx : x < n) (hy : y < n) : inB (fn (dist n (J2 l) x) y) 0 (r : Int) = false ↔ ¬ Wk l n r x y := by
  unfold inB
  rw [decide_eq_false_iff_not, wk_dist hx hy]
theorem farL_iff {n : Nat} {l : List Ed} {r c : Nat} : FarL n l r (nw (bitB c) n) (nw (bitB c) n).length ↔ FarP l n r c := by
  have hasc := nw_asc (bitB c) n
  constructor
  · intro h x y hx hyx hcx hcy
    obtain ⟨a, ha⟩ := List.getElem?_of_mem (mem_nw.2 ⟨x, hx, hcx, rfl⟩ : ((x : Nat) : Int) ∈ nw (bitB c) n)
    obtain ⟨b, hb⟩ := List.getElem?_of_mem (mem_nw.2 ⟨y, by omega, hcy, rfl⟩ : ((y : Nat) : Int) ∈ nw (bitB c) n)
    have hba : b < a := by
      rcases Nat.lt_trichotomy b a with e | e | e
      · exact e
      · subst e; rw [ha] at hb; have := Option.some.inj hb; omega
      · have := hasc.at_ e ha hb; omega
    have := h a b _ _ (List.getElem?_eq_some_iff.1 ha).1 hba ha hb
    rw [Int.toNat_natCast, Int.toNat_natCast] at this
    exact (inB_wk hx (by omega)).1 this
  · intro h a b x y h1 h2 h3 h4
    obtain ⟨i, hi, hci, rfl⟩ := mem_nw.1 (List.mem_of_getElem? h3)
    obtain ⟨j, hj, hcj, rfl⟩ := mem_nw.1 (List.mem_of_getElem? h4)
    have := hasc.at_ h2 h4 h3
    rw [Int.toNat_natCast, Int.toNat_natCast]
    exact (inB_wk hi hj).2 (h i j hi (by omega) hci hcj)
set_option maxHeartbeats 4000000 in
set_option maxRecDepth 100000 in
theorem l8Far_any (n kk cd B c : Nat) (Ad : Option Addr) (us : List Value) (u : Value) (l : List Ed) (w : World) (hd : OwnG w B (.slice Ad (distG n l).length cd) us (distG n l)) (hu : Ints w u (nw (bitB c) n)) (hg : P2.Good (n : Int) l) (hn : n ≤ 8) (hc : c < 2 ^ n) (hk1 : 1 ≤ kk) (hk8 : kk ≤ 8) :
    Calls Try.prog 75 #[.slice Ad (distG n l).length cd, u, .int .i64 (kk : Int)] w fun e w' => e = .returned (.bool (farB l n (2 * kk - 2) c)) ∧ Below w.heap.size w w' := by
  obtain ⟨A2, c2, rfl, hc2⟩ := hu.form
  have HC2 := Lib.hid hc2
  have hdl : (distG n l).length = n := by unfold distG distTo; simp
  obtain ⟨R, hR⟩ : ∃ R : Nat, R = 2 * kk - 2 := ⟨_, rfl⟩
  have hRi : (2 : Int) * (kk : Int) - 2 = (R : Int) := by omega
  rw [← hR]
  have HDC := Lib.hid (fun (x y : Nat) (hx : x < n) (hy : y < n) (W : World) (hW : Below w.heap.size w W) => distU_cell (hd.below hW) hx hy)
  have HFI : Hid (farB l n R c = true ↔ FarL n l R (nw (bitB c) n) (nw (bitB c) n).length) := by
    show _ ↔ _
    rw [far_iff hg hn hc, farL_iff]
  have HF0 : Hid (FarL n l R (nw (bitB c) n) 0) := fun a b x y h => by omega
  have HMM := Lib.hid (fun (x : Int) => (mem_nw (p := bitB c) (k := n) (x := x)))
  have hnl := nw_len (bitB c) n
  clear hd hu hc2 hR hc
  rw [hdl]
  clear hdl
  generalize nw (bitB c) n = xs at *
  go_enter Try.func75, Try.ntmps75
  go_wp2_with fail
  go_loopg [7] xs.length (fun g iv wr => ∃ i : Nat, i + g = xs.length ∧ iv = .int .i64 (i : Int) ∧ Hid (FarL n l R xs i) ∧ Below w.heap.size w wr)
  case atStart => exact ⟨0, by omega, rfl, HF0, Below.refl _ _⟩
  case round =>
    clear HF0
    obtain ⟨i, hig, rfl, hfl, hB⟩ := hrel
    have HB := Lib.hid hB
    cases gk with
    | zero =>
      obtain rfl : i = xs.length := by omega
      have HV : Hid (farB l n R c = true) := HFI.out.2 hfl.out
      clear hB
      go_wp2_with fail
      go_ret
      rw [HV.out]
      exact ⟨rfl, HB.out⟩
    | succ g2 =>
      have hlt : i < xs.length := by omega
      have hlt' : (i : Int) < (xs.length : Int) := by omega
      obtain ⟨x', hx'⟩ : ∃ x, xs[i]? = some x := ⟨_, List.getElem?_eq_getElem hlt⟩
      obtain ⟨x, hxn, -, rfl⟩ := (HMM.out x').1 (List.mem_of_getElem? hx')
      obtain ⟨g5, o5, rfl, c5⟩ := HC2.out i _ hx'
      have HX := Lib.hid hx'
      have HC5 := Lib.hid c5
      have HI := Lib.hid hfl.out.inner
      have hxn' : (x : Int) < (n : Int) := by omega
      clear hx' c5 hB
      go_wp2_with fail
      obtain ⟨wo, hwo⟩ : ∃ wo, wo = wr := ⟨_, rfl⟩
      subst hwo
      go_loopg [8] i (fun g jv wr => ∃ j : Nat, j + g = i ∧ jv = .int .i64 (j : Int) ∧ Hid (FarI n l R xs i j) ∧ Below w.heap.size w wr)
      case atStart => exact ⟨0, by omega, rfl, HI, HB.out⟩
      case round =>
        clear HI HB
        obtain ⟨j, hjg, rfl, hfi, hB⟩ := hrel
        have HB := Lib.hid hB
        cases gk with
        | zero =>
          obtain rfl : j = i := by omega
          have HN := Lib.hid hfi.out.all
          clear hB
          go_wp2_with fail
          go_roundg g2
          case measure => omega
          case rel => exact ⟨j + 1, by omega, by go_num, HN, HB.out⟩
        | succ g3 =>
          have hji : j < i := by omega
          have hji' : (j : Int) < (i : Int) := by omega
          have hjl' : (j : Int) < (xs.length : Int) := by omega
          obtain ⟨y', hy'⟩ : ∃ y, xs[j]? = some y := ⟨_, List.getElem?_eq_getElem (by omega)⟩
          obtain ⟨y, hyn, -, rfl⟩ := (HMM.out y').1 (List.mem_of_getElem? hy')
          obtain ⟨_, _, hf, c6⟩ := HC2.out j _ hy'
          cases hf
          have hyn' : (y : Int) < (n : Int) := by omega
          have q5 := nearv.cell_keep HC5.out hB
          have q6 := nearv.cell_keep c6 hB
          obtain ⟨g8, gr, gx, c8, rfl, q7, q8⟩ := HDC.out x y hxn hyn wr hB
          have HIN := Lib.hid (fun (W : World) => l1In_any (fn (dist n (J2 l) x) y) 0 (R : Int) W)
          have HBD := Lib.hid (fun (m : Nat) => below_drewN hB m)
          cases hib : inB (fn (dist n (J2 l) x) y) 0 (R : Int) with
          | true =>
            have HV : Hid (farB l n R c = false) := by
              cases hfb : farB l n R c with
              | false => exact rfl
              | true =>
                have := HFI.out.1 hfb i j _ _ hlt hji HX.out hy'
                rw [Int.toNat_natCast, Int.toNat_natCast, hib] at this
                cases this
            rw [hib] at HIN
            clear hib hy' c6 hB
            generalize fn (dist n (J2 l) x) y = D at *
            go_wp2_with fail
            go_quiet ((go_at_call 94; exact quiet_left (HIN.out _)))
            go_wp2_with fail
            go_ret
            rw [HV.out]
            exact ⟨rfl, HBD.out _⟩
          | false =>
            have HN := Lib.hid (hfi.out.next HX.out hy' hib)
            rw [hib] at HIN
            clear hib hy' c6 hB
            generalize fn (dist n (J2 l) x) y = D at *
            go_wp2_with fail
            go_quiet ((go_at_call 94; exact quiet_left (HIN.out _)))
            go_wp2_with fail
            go_roundg g3
            case measure => omega
            case rel => exact ⟨j + 1, by omega, by go_num, HN, HBD.out _⟩
set_option maxHeartbeats 2000000 in
set_option maxRecDepth 100000 in
theorem specFar_any (s k : Int) (v u : Value) (l : List Ed) (xs : List Int) (w : World) (h : Edges w v l) (hl : l.length ≤ 1048576) (hu : Ints w u xs) (hxl : xs.length ≤ 1048576) (hs1 : -9223372036854775808 ≤ s) (hs2 : s ≤ 9223372036854775807) :
    Calls Try.prog 29 #[.agg #[.int .i64 s, v], u, .int .i64 k] w fun e w' => e = .returned (.tuple #[.bool (farV s l xs k), .bool (okG (FarOk s l xs k))]) ∧ Below w.heap.size w w' := by
  obtain ⟨A, c, rfl, -⟩ := h.form
  have H := Lib.hid h
  have HU := Lib.hid hu
  have b0 : Below w.heap.size w (w.alloc (.cells #[.int .i64 s, .slice A l.length c] 29)) := (Below.refl _ _).alloc (Nat.le_refl _) _
  have g0 := Blk.new w 29 #[.int .i64 s, .slice A l.length c]
  obtain ⟨p0, p1, -, -⟩ := g0.two
  have HGD := Lib.hid (l2Good_any s _ l _ (h.below b0) hl hs1 hs2)
  have HB0 := Lib.hid b0
  have HG0 := Lib.hid g0
  clear h hu b0 g0
  by_cases hgd : P2.Good s l
  · rw [goodB_yes hgd] at HGD
    have h0 := hgd.1
    have h8 := hgd.2.1
    have HS := Lib.hid (fun (W : World) (hW : Below w.heap.size w W) => l2Set_any s (.slice A l.length c) u l xs W (HU.out.below hW) hxl h0 h8)
    by_cases hso : SetOk s l xs
    · rw [okG_yes ((setOk_iff hgd).2 hso)] at HS
      by_cases hrr : 1 ≤ k ∧ k ≤ 8
      · have HLN := Lib.hid (fun (W : World) => l8Number_any k W)
        rw [inB_num hrr] at HLN
        have HOK : Hid (FarOk s l xs k) := ⟨⟨hgd, hrr⟩, hso⟩
        have HOV : Hid (okG (FarOk s l xs k) = true) := okG_yes ⟨⟨hgd, hrr⟩, hso⟩
        obtain ⟨n, rfl⟩ : ∃ n : Nat, s = (n : Int) := ⟨s.toNat, by omega⟩
        have hn : n ≤ 8 := by omega
        obtain ⟨kk, rfl⟩ : ∃ kk : Nat, k = (kk : Int) := ⟨k.toNat, by omega⟩
        have hk1 : 1 ≤ kk := by omega
        have hk8 : kk ≤ 8 := by omega
        have HFV : Hid (farV (n : Int) l xs (kk : Int) = farB l n (2 * kk - 2) (codeL xs)) := by
          show _ = _
          unfold farV
          rw [Int.toNat_natCast, Int.toNat_natCast, Bool.eq_iff_iff, okG_iff]
          exact ⟨fun h => h.2, fun h => ⟨HOK.out, h⟩⟩
        have HXS := Lib.hid (setOk_code hso)
        have HC := Lib.hid (code_set hso)
        clear hgd hso hrr
        go_enter Try.func29, Try.ntmps29
        go_wp2_with fail
        refine HGD.out.mono ?_
        rintro e w1 ⟨rfl, b1⟩
        have HE1 := Lib.hid (btrans HB0.out b1)
        have HG1 := Lib.hid (HG0.out.below b1 HG0.out.lt)
        have HSS := Lib.hid (HS.out w1 HE1.out)
        clear p0 p1 b1 HGD HS HB0 HG0
        obtain ⟨p0, p1, -, -⟩ := HG1.out.two
        go_wp2_with fail
        refine HSS.out.mono ?_
        rintro e w2 ⟨rfl, b2⟩
        have HE2 := Lib.hid (btrans HE1.out b2)
        have HG2 := Lib.hid (HG1.out.below b2 HG1.out.lt)
        clear p0 p1 b2 HSS HE1 HG1
        obtain ⟨p0, p1, -, -⟩ := HG2.out.two
        go_wp2_with fail
        refine (HLN.out _).mono ?_
        rintro e w' ⟨rfl, rfl⟩
        have HDI := Lib.hid (l2Dist_any n (.slice A l.length c) l w2 (H.out.below HE2.out) hl hn)
        go_wp2_with fail
        refine HDI.out.mono ?_
        rintro e w3 ⟨A5, c5, us, rfl, o5, b5⟩
        have HE3 := Lib.hid (btrans HE2.out b5)
        have HFA := Lib.hid (l8Far_any n kk c5 w2.heap.size (codeL xs) A5 us u l w3 o5 (by have h_ := HU.out.below HE3.out; rw [HXS.out] at h_; exact h_) HOK.out.1.1 hn HC.out hk1 hk8)
        clear o5 b5 p0 p1
        go_wp2_with fail
        refine HFA.out.mono ?_
        rintro e w4 ⟨rfl, b6⟩
        go_wp2_with fail
        go_ret2
        rw [HFV.out, HOV.out]
        exact ⟨rfl, btrans HE3.out b6⟩
      · have HLN := Lib.hid (fun (W : World) => l8Number_any k W)
        rw [inB_non hrr] at HLN
        have HV1 : Hid (farV s l xs k = false) := okG_no fun h => hrr h.1.1.2
        have HV2 : Hid (okG (FarOk s l xs k) = false) := okG_no fun h => hrr h.1.2
        clear hgd hso hrr
        go_enter Try.func29, Try.ntmps29
        go_wp2_with fail
        refine HGD.out.mono ?_
        rintro e w1 ⟨rfl, b1⟩
        have HE1 := Lib.hid (btrans HB0.out b1)
        have HG1 := Lib.hid (HG0.out.below b1 HG0.out.lt)
        have HSS := Lib.hid (HS.out w1 HE1.out)
        clear p0 p1 b1 HGD HS HB0 HG0
        obtain ⟨p0, p1, -, -⟩ := HG1.out.two
        go_wp2_with fail
        refine HSS.out.mono ?_
        rintro e w2 ⟨rfl, b2⟩
        have HE2 := Lib.hid (btrans HE1.out b2)
        clear p0 p1 b2 HSS HE1 HG1
        go_wp2_with fail
        refine (HLN.out _).mono ?_
        rintro e w' ⟨rfl, rfl⟩
        go_wp2_with fail
        go_ret2
        rw [HV1.out, HV2.out]
        exact ⟨rfl, HE2.out⟩
    · rw [okG_no (fun h => hso ((setOk_iff hgd).1 h))] at HS
      have HV1 : Hid (farV s l xs k = false) := okG_no fun h => hso h.1.2
      have HV2 : Hid (okG (FarOk s l xs k) = false) := okG_no fun h => hso h.2
      clear hgd hso
      go_enter Try.func29, Try.ntmps29
      go_wp2_with fail
      refine HGD.out.mono ?_
      rintro e w1 ⟨rfl, b1⟩
      have HE1 := Lib.hid (btrans HB0.out b1)
      have HG1 := Lib.hid (HG0.out.below b1 HG0.out.lt)
      have HSS := Lib.hid (HS.out w1 HE1.out)
      clear p0 p1 b1 HGD HS HB0 HG0
      obtain ⟨p0, p1, -, -⟩ := HG1.out.two
      go_wp2_with fail
      refine HSS.out.mono ?_
      rintro e w2 ⟨rfl, b2⟩
      have HE2 := Lib.hid (btrans HE1.out b2)
      clear p0 p1 b2 HSS HE1 HG1
      go_wp2_with fail
      go_ret2
      rw [HV1.out, HV2.out]
      exact ⟨rfl, HE2.out⟩
  · rw [goodB_no hgd] at HGD
    have HV1 : Hid (farV s l xs k = false) := okG_no fun h => hgd h.1.1.1
    have HV2 : Hid (okG (FarOk s l xs k) = false) := okG_no fun h => hgd h.1.1
    clear hgd
    go_enter Try.func29, Try.ntmps29
    go_wp2_with fail
    refine HGD.out.mono ?_
    rintro e w1 ⟨rfl, b1⟩
    have HE1 := Lib.hid (btrans HB0.out b1)
    clear p0 p1 b1
    go_wp2_with fail
    go_ret2
    rw [HV1.out, HV2.out]
    exact ⟨rfl, HE1.out⟩
set_option maxHeartbeats 8000000 in
set_option maxRecDepth 100000 in
theorem l8Largest_any (n kk : Nat) (v : Value) (l : List Ed) (w : World) (h : Edges w v l) (hl : l.length ≤ 1048576) (hg : P2.Good (n : Int) l) (hn : n ≤ 8) (hk1 : 1 ≤ kk) (hk8 : kk ≤ 8) :
    Calls Try.prog 79 #[.agg #[.int .i64 (n : Int), v], .int .i64 (kk : Int)] w (RowI w (ndN (lfN l n kk))) := by
  obtain ⟨A, c, rfl, -⟩ := h.form
  have b0 : Below w.heap.size w ((w.alloc (.cells #[.int .i64 (n : Int), .slice A l.length c] 29)).alloc (.cells #[] 3)) := ((Below.refl _ _).alloc (Nat.le_refl _) _).alloc (by simp) _
  have g0 := (Blk.new w 29 #[.int .i64 (n : Int), .slice A l.length c]).alloc (.cells #[] 3)
  obtain ⟨p0, p1, -, -⟩ := g0.two
  have o0 := own_new0 (w.alloc (.cells #[.int .i64 (n : Int), .slice A l.length c] 29)) 3 1
  rw [World.size_alloc] at o0
  have HDI := Lib.hid (l2Dist_any n (.slice A l.length c) l _ (h.below b0) hl hn)
  have HB0 := Lib.hid b0
  have HG0 := Lib.hid g0
  have hz0 : nw (bitB 0) n = [] := by rw [nd_bits hn (Nat.pow_pos (by decide))]; decide
  have HO0 : Hid (((w.alloc (.cells #[.int .i64 (n : Int), .slice A l.length c] 29)).alloc (.cells #[] 3)).ownsRow w.heap.size 3 1 (.slice (some ⟨w.heap.size + 1, 0, none⟩) 0 0) (nw (bitB 0) n).length (cellsI (nw (bitB 0) n))) := by
    show World.ownsRow _ _ _ _ _ _ _
    rw [hz0]
    exact own_base o0 (by omega)
  have HM0 : Hid (MaxC (farB l n (2 * kk - 2)) rkMax n 0 0) := ⟨Nat.pow_pos (by decide), far_zero l n _, fun c hc => by omega⟩
  have HPW := Lib.hid (pow_le hn)
  have HBE := Lib.hid (fun (b : Nat) (hb : MaxC (farB l n (2 * kk - 2)) rkMax n (2 ^ n) b) => (bestC_is hn rkMax_inj hb : lfN l n kk = b))
  have HTK : Hid (∀ k bst, MaxC (farB l n (2 * kk - 2)) rkMax n k bst → k < 2 ^ n → farB l n (2 * kk - 2) k = true → rkMax bst < rkMax k → MaxC (farB l n (2 * kk - 2)) rkMax n (k + 1) k) := fun k bst h1 h2 h3 h4 => maxC_take h1 h2 h3 h4
  have HND : Hid (∀ c, c < 2 ^ n → nw (bitB c) n = ndN c) := fun c hc => nd_bits hn hc
  have HFA := Lib.hid (fun (k cd B : Nat) (Ad : Option Addr) (us : List Value) (hk : k < 2 ^ n) (W : World) (u : Value) (hd : OwnG W B (.slice Ad (distG n l).length cd) us (distG n l)) (hu : Ints W u (nw (bitB k) n)) => l8Far_any n kk cd B k Ad us u l W hd hu hg hn hk hk1 hk8)
  have HBT := Lib.hid (fun (bst k : Nat) (hb : MaxC (farB l n (2 * kk - 2)) rkMax n k bst) => hb.1)
  clear h b0 g0 o0 hz0 hg
  have hsh : IntKind.i64.wrap ((2 : Int) ^ n) = ((2 ^ n : Nat) : Int) := by
    have hpn := pow_le hn
    rw [show ((2 : Int) ^ n) = ((2 ^ n : Nat) : Int) from by simp]
    generalize 2 ^ n = z at *
    exact Go.IntWalk.i64_in _ (by omega)
  have hN256 := HPW.out
  generalize hNN : 2 ^ n = N at *
  have HNN := Lib.hid hNN
  clear hNN
  go_enter Try.func79, Try.ntmps79
  go_wp2_with fail
  refine HDI.out.mono ?_
  rintro e w2 ⟨A7, c7, us, rfl, o7, b2⟩
  have HE2 := Lib.hid (btrans HB0.out b2)
  have HG2 := Lib.hid (HG0.out.below b2 HG0.out.lt)
  have HO2 := Lib.hid (own_below HO0.out b2)
  have HOG := Lib.hid o7
  clear p0 p1 b2 o7 HDI HB0 HG0 HO0
  generalize hDG : distG n l = DG at *
  clear hDG
  go_wp2_with fail
  go_loopg [5, 7] N (fun g bv cv wr => ∃ (k bst : Nat) (ow : Value), ow = bv ∧ k + g = N ∧ cv = .int .i64 (k : Int) ∧ Hid (MaxC (farB l n (2 * kk - 2)) rkMax n k bst) ∧ wr.ownsRow w.heap.size 3 1 ow (nw (bitB bst) n).length (cellsI (nw (bitB bst) n)) ∧ Blk wr w.heap.size 29 #[.int .i64 (n : Int), .slice A l.length c] ∧ Below w2.heap.size w2 wr)
  case atStart => exact ⟨0, 0, _, rfl, by omega, rfl, HM0, HO2.out, HG2.out, Below.refl _ _⟩
  case round =>
    clear HM0 HO2 HG2
    obtain ⟨k, bst, ow, rfl, hkg, rfl, hmx, hrow, hgb, hB⟩ := hrel
    obtain ⟨A4, c4, rfl⟩ := own_form hrow
    obtain ⟨p0, p1, -, -⟩ := hgb.two
    have HR := Lib.hid hrow
    have HG := Lib.hid hgb
    have HB := Lib.hid hB
    have hbl := nw_len (bitB bst) n
    have HBN := Lib.hid (HBT.out bst k hmx.out)
    have HB2 := Lib.hid (HND.out bst HBN.out)
    have HSZ := Lib.hid HE2.out.size
    clear hrow hgb hB
    cases gk with
    | zero =>
      obtain rfl : k = N := by omega
      have HV : Hid (lfN l n kk = bst) := HBE.out bst hmx.out
      go_wp2_with fail
      go_ret
      have HR2 := HR.out
      rw [HB2.out] at HR2 ⊢
      rw [HV.out]
      exact ⟨_, _, rfl, HR2, btrans HE2.out HB.out⟩
    | succ g2 =>
      have hkN : k < N := by omega
      have hkN' : (k : Int) < (N : Int) := by omega
      have HBI := Lib.hid (l2Bits_any n k wr hn (by omega))
      have HNK := Lib.hid (HND.out k hkN)
      have hkl := nw_len (bitB k) n
      go_wp2_with fail
      refine HBI.out.mono ?_
      rintro e w3 ⟨A5, c5, rfl, o5, b5⟩
      have HB3 := Lib.hid (HB.out.trans (b5.mono HB.out.size))
      have HG3 := Lib.hid (HG.out.below b5 HG.out.lt)
      have HR3 := Lib.hid (own_below HR.out b5)
      have HO5 := Lib.hid (own_base (B' := w.heap.size) o5 (Nat.le_trans HSZ.out HB.out.size))
      have HS3 := Lib.hid (HFA.out k c7 _ A7 us hkN w3 (.slice A5 (nw (bitB k) n).length c5) (HOG.out.below HB3.out) (Reads.of_own o5))
      have h12 : Hid ((nw (bitB k) n).length = onesN k ∧ (nw (bitB bst) n).length = onesN bst) := ⟨by rw [HNK.out]; rfl, by rw [HB2.out]; rfl⟩
      have hbm := better_max (a := k) (b := bst) (by omega) (by have := HBN.out; omega)
      clear p0 p1 b5 o5
      obtain ⟨p0, p1, -, -⟩ := HG3.out.two
      cases hfb : farB l n (2 * kk - 2) k with
      | false =>
        have HN := Lib.hid (maxC_skip hmx.out hfb)
        rw [hfb] at HS3
        clear hfb hbm
        go_wp2_with fail
        refine HS3.out.mono ?_
        rintro e w4 ⟨rfl, b6⟩
        have HB4 := Lib.hid (HB3.out.trans (b6.mono HB3.out.size))
        have HG4 := Lib.hid (HG3.out.below b6 HG3.out.lt)
        have HR4 := Lib.hid (own_below HR3.out b6)
        clear b6 p0 p1
        go_wp2_with fail
        go_roundg g2
        case measure => omega
        case rel => exact ⟨k + 1, bst, _, rfl, by omega, by go_num, HN, HR4.out, HG4.out, HB4.out⟩
      | true =>
        have HTT := Lib.hid (fun (h : rkMax bst < rkMax k) => HTK.out k bst hmx.out hkN hfb h)
        have HLL := Lib.hid (fun (h : ¬ rkMax bst < rkMax k) => maxC_less hmx.out h)
        rw [hfb] at HS3
        clear hfb
        go_wp2_with fail
        refine HS3.out.mono ?_
        rintro e w4 ⟨rfl, b6⟩
        have HB4 := Lib.hid (HB3.out.trans (b6.mono HB3.out.size))
        have HG4 := Lib.hid (HG3.out.below b6 HG3.out.lt)
        have HR4 := Lib.hid (own_below HR3.out b6)
        have HO4 := Lib.hid (own_below HO5.out b6)
        clear b6 p0 p1
        by_cases c1 : onesN bst < onesN k
        · have c2 : (nw (bitB bst) n).length < (nw (bitB k) n).length := by rw [h12.out.1, h12.out.2]; exact c1
          have c3 : ((nw (bitB bst) n).length : Int) < ((nw (bitB k) n).length : Int) := by omega
          have HN := Lib.hid (HTT.out (by rw [decide_eq_true c1, Bool.true_or] at hbm; exact of_decide_eq_true hbm.symm))
          clear hbm c1
          go_wp2_with fail
          go_roundg g2
          case measure => omega
          case rel => exact ⟨k + 1, k, _, rfl, by omega, by go_num, HN, HO4.out, HG4.out, HB4.out⟩
        · have c2 : ¬ (nw (bitB bst) n).length < (nw (bitB k) n).length := by rw [h12.out.1, h12.out.2]; exact c1
          have c3 : ¬ ((nw (bitB bst) n).length : Int) < ((nw (bitB k) n).length : Int) := by omega
          rw [decide_eq_false c1, Bool.false_or] at hbm
          by_cases c4 : onesN k = onesN bst
          · have c5 : Hid ((nw (bitB k) n).length = (nw (bitB bst) n).length) := by show _ = _; rw [h12.out.1, h12.out.2]; exact c4
            have c6 : (((nw (bitB k) n).length : Int) == ((nw (bitB bst) n).length : Int)) = true := by rw [c5.out]; simp
            have c7 : ((nw (bitB k) n).length == (nw (bitB bst) n).length) = true := by rw [c5.out]; simp
            rw [decide_eq_true c4, Bool.true_and] at hbm
            have HLS := Lib.hid (l4LessI_any _ _ (nw (bitB k) n) (nw (bitB bst) n) w4 (show Ints _ _ _ from Reads.of_own HO4.out) (show Ints _ _ _ from Reads.of_own HR4.out) c5.out (by omega))
            rw [HNK.out, HB2.out, hbm] at HLS
            rw [← HNK.out, ← HB2.out] at HLS
            clear c1 c4 hbm
            by_cases hlx : rkMax bst < rkMax k
            · rw [decide_eq_true hlx] at HLS
              have HN := Lib.hid (HTT.out hlx)
              clear hlx
              go_wp2_with fail
              refine HLS.out.mono ?_
              rintro e w5 ⟨rfl, b7⟩
              have HB5 := Lib.hid (HB4.out.trans (b7.mono HB4.out.size))
              have HG5 := Lib.hid (HG4.out.below b7 HG4.out.lt)
              have HO7 := Lib.hid (own_below HO4.out b7)
              clear b7
              go_wp2_with fail
              go_roundg g2
              case measure => omega
              case rel => exact ⟨k + 1, k, _, rfl, by omega, by go_num, HN, HO7.out, HG5.out, HB5.out⟩
            · rw [decide_eq_false hlx] at HLS
              have HN := Lib.hid (HLL.out hlx)
              clear hlx
              go_wp2_with fail
              refine HLS.out.mono ?_
              rintro e w5 ⟨rfl, b7⟩
              have HB5 := Lib.hid (HB4.out.trans (b7.mono HB4.out.size))
              have HG5 := Lib.hid (HG4.out.below b7 HG4.out.lt)
              have HR7 := Lib.hid (own_below HR4.out b7)
              clear b7
              go_wp2_with fail
              go_roundg g2
              case measure => omega
              case rel => exact ⟨k + 1, bst, _, rfl, by omega, by go_num, HN, HR7.out, HG5.out, HB5.out⟩
          · have c5 : (nw (bitB k) n).length ≠ (nw (bitB bst) n).length := by rw [h12.out.1, h12.out.2]; exact c4
            have c6 : (((nw (bitB k) n).length : Int) == ((nw (bitB bst) n).length : Int)) = false := by rw [beq_eq_false_iff_ne]; omega
            have c7 : ((nw (bitB k) n).length == (nw (bitB bst) n).length) = false := by rw [beq_eq_false_iff_ne]; exact c5
            rw [decide_eq_false c4, Bool.false_and] at hbm
            have HN := Lib.hid (HLL.out (of_decide_eq_false hbm.symm))
            clear c1 c4 hbm
            go_wp2_with fail
            go_roundg g2
            case measure => omega
            case rel => exact ⟨k + 1, bst, _, rfl, by omega, by go_num, HN, HR4.out, HG4.out, HB4.out⟩
set_option maxHeartbeats 1000000 in
set_option maxRecDepth 100000 in
theorem specLf_any (s k : Int) (v : Value) (l : List Ed) (w : World) (h : Edges w v l) (hl : l.length ≤ 1048576) (hs1 : -9223372036854775808 ≤ s) (hs2 : s ≤ 9223372036854775807) :
    Calls Try.prog 31 #[.agg #[.int .i64 s, v], .int .i64 k] w (RetI w (NumOk s l k) (ndN (lfN l s.toNat k.toNat))) := by
  obtain ⟨A, c, rfl, -⟩ := h.form
  have H := Lib.hid h
  have b0 : Below w.heap.size w (w.alloc (.cells #[.int .i64 s, .slice A l.length c] 29)) := (Below.refl _ _).alloc (Nat.le_refl _) _
  have g0 := Blk.new w 29 #[.int .i64 s, .slice A l.length c]
  obtain ⟨p0, p1, -, -⟩ := g0.two
  have HGD := Lib.hid (l2Good_any s _ l _ (h.below b0) hl hs1 hs2)
  have HB0 := Lib.hid b0
  have HG0 := Lib.hid g0
  clear h b0 g0
  by_cases hgd : P2.Good s l
  · rw [goodB_yes hgd] at HGD
    have h0 := hgd.1
    have h8 := hgd.2.1
    by_cases hrr : 1 ≤ k ∧ k ≤ 8
    · have HLN := Lib.hid (fun (W : World) => l8Number_any k W)
      rw [inB_num hrr] at HLN
      have HOK : Hid (NumOk s l k) := ⟨hgd, hrr⟩
      obtain ⟨n, rfl⟩ : ∃ n : Nat, s = (n : Int) := ⟨s.toNat, by omega⟩
      have hn : n ≤ 8 := by omega
      obtain ⟨kk, rfl⟩ : ∃ kk : Nat, k = (kk : Int) := ⟨k.toNat, by omega⟩
      have hk1 : 1 ≤ kk := by omega
      have hk8 : kk ≤ 8 := by omega
      rw [Int.toNat_natCast, Int.toNat_natCast]
      clear hgd hrr
      go_enter Try.func31, Try.ntmps31
      go_wp2_with fail
      refine HGD.out.mono ?_
      rintro e w1 ⟨rfl, b1⟩
      have HE1 := Lib.hid (btrans HB0.out b1)
      have HG1 := Lib.hid (HG0.out.below b1 HG0.out.lt)
      clear p0 p1 b1 HGD HB0 HG0
      obtain ⟨p0, p1, -, -⟩ := HG1.out.two
      go_wp2_with fail
      refine (HLN.out _).mono ?_
      rintro e w' ⟨rfl, rfl⟩
      have HLF := Lib.hid (l8Largest_any n kk (.slice A l.length c) l w1 (H.out.below HE1.out) hl HOK.out.1 hn hk1 hk8)
      go_wp2_with fail
      refine HLF.out.mono ?_
      rintro e w4 ⟨A4, c4, rfl, o4, b4⟩
      go_wp2_with fail
      go_ret2
      exact RetI.yes HOK.out (own_base o4 HE1.out.size) (btrans HE1.out b4)
    · have HLN := Lib.hid (fun (W : World) => l8Number_any k W)
      rw [inB_non hrr] at HLN
      have HNO : Hid (¬ NumOk s l k) := fun h => hrr h.2
      clear hgd hrr
      go_enter Try.func31, Try.ntmps31
      go_wp2_with fail
      refine HGD.out.mono ?_
      rintro e w1 ⟨rfl, b1⟩
      have HE1 := Lib.hid (btrans HB0.out b1)
      clear p0 p1 b1 HGD HB0 HG0
      go_wp2_with fail
      refine (HLN.out _).mono ?_
      rintro e w' ⟨rfl, rfl⟩
      go_wp2_with fail
      go_ret2
      exact RetI.no HNO.out (own_base (own_new0 w1 3 1) HE1.out.size) (HE1.out.alloc HE1.out.size _)
  · rw [goodB_no hgd] at HGD
    have HNO : Hid (¬ NumOk s l k) := fun h => hgd h.1
    clear hgd
    go_enter Try.func31, Try.ntmps31
    go_wp2_with fail
    refine HGD.out.mono ?_
    rintro e w1 ⟨rfl, b1⟩
    have HE1 := Lib.hid (btrans HB0.out b1)
    clear p0 p1 b1
    go_wp2_with fail
    go_ret2
    exact RetI.no HNO.out (own_base (own_new0 w1 3 1) HE1.out.size) (HE1.out.alloc HE1.out.size _)
theorem lf_len (s : Int) (l : List Ed) (k : Int) : (inG (NumOk s l k) (ndN (lfN l s.toNat k.toNat))).length ≤ 1048576 := inG_len fun _ => by
  unfold ndN
  have := nw_len (bitB (lfN l s.toNat k.toNat)) 8
  omega
end Go.Proofs.Ytnmidgnkjpcpgaa.ups
