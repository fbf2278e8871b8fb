/- Guards: the contracts of the model's l10Good, l10Sets and GuardSets. -/
import Derived.Handy
import Derived.Test.YtdhbaegkogklgaaK15
import Derived.Test.YtdhbaegkogklgaaK17
import Derived.Test.YtdhbaegkogklgaaK01
import Derived.Deep.DeepCutAuto
import Derived.Deep.RegionHeld3
import Derived.Deep.QuietTactic
import Derived.Test.YtdhbaegkogklgaaK11
import Derived.Test.YtdhbaegkogklgaaK10
import Derived.Test.YtdhbaegkogklgaaK16
import Derived.Maps.AppendAt
import Derived.Test.YtdhbaegkogklgaaK07
import Derived.Test.YtdhbaegkogklgaaProg
import Derived.Deep.Slices
import Derived.Lib.SmallJoins
import Derived.OpenShut
namespace Go.Proofs.Ytdhbaegkogklgaa.ups
open Go.RowKit P2 words edges ints owns good adjs fns sets rets covs bitsI func grid gridl
set_option linter.unusedVariables false

theorem l10Sets_any (n m : Nat) (v : Value) (w : World) (hn : n ≤ 8) (hm : m ≤ 8) :
    Calls Try.prog 36 #[.agg #[.int .i64 (n : Int), v], .int .i64 (m : Int)] w (RetX w (rowN (setsK n m))) := by
  have b0 : Below w.heap.size w (w.alloc (.cells #[.int .i64 (n : Int), v] 30)) := (Below.refl _ _).alloc (Nat.le_refl _) _
  have g0 := Blk.new w 30 #[.int .i64 (n : Int), v]
  obtain ⟨p0, p1, -, -⟩ := g0.two
  have HA := Lib.hid (l2All_any n v (w.alloc (.cells #[.int .i64 (n : Int), v] 30)) hn)
  have HB0 := Lib.hid b0
  have HCH : Hid (∀ (u : Value) (W : World), Ints W u (allN n) → Calls Try.prog 70 #[u, .int .i64 (m : Int)] W (RetX W (rowN (setsK n m)))) := fun u W hu => by
    have h_ := l8Choices_any m (by omega) u (allN n) W hu (by rw [allN_len]; exact hn)
    have h2 := chL_sets ⟨n, by omega⟩ ⟨m, by omega⟩
    simp only at h2
    rw [h2] at h_
    exact h_
  clear b0 g0
  go_enter Try.func36, Try.ntmps36
  go_wp2_with fail
  refine HA.out.mono ?_
  rintro e w1 ⟨A1, c1, rfl, o1, b1⟩
  have HE1 := Lib.hid (btrans HB0.out b1)
  have HC := Lib.hid (HCH.out _ w1 (show Ints w1 _ _ from Reads.of_own o1))
  clear o1 b1
  go_wp2_with fail
  refine HC.out.mono ?_
  rintro e w2 ⟨A2, c2, us, rfl, o2, b2⟩
  go_wp2_with fail
  go_ret
  exact ⟨A2, c2, us, rfl, o2.base HE1.out.size, btrans HE1.out b2⟩
end Go.Proofs.Ytdhbaegkogklgaa.ups

/- A table whose rows are named from another one. -/
namespace Go.Proofs.Ytdhbaegkogklgaa.ups
open Go.RowKit P2 words edges ints owns grid gridr gridl
set_option linter.unusedVariables false

/-- a row that lies elsewhere is named in a table -/
theorem pickPush {w w6 : World} {B : Nat} {v u v6 : Value} {us : List Value} {rows : List (List Int)} {r : List Int} {o : Obj} (h : OwnG w B v us rows) (hu : w.ownsRow B 3 1 u r.length (cellsI r)) (hf : ∀ x ∈ us, ∀ k, x.ownBlock = some k → u.ownBlock ≠ some k)
    (hown : w6.ownsRow B 37 1 v6 (rows.length + 1) (us ++ [u])) (hg : (w.alloc o).grownBy w6 v.ownBlock) : OwnG w6 B v6 (us ++ [u]) (rows ++ [r]) := by
  have hlen := h.len
  have apart : ∀ {x : Value} {q : List Int}, w.ownsRow B 3 1 x q.length (cellsI q) → x.ownBlock = none ∨ x.ownBlock ≠ v.ownBlock := fun {x q} ho => by
    cases hh : x.ownBlock with
    | none => exact .inl rfl
    | some k => exact .inr (fun e => own_apart ho h.1 tneI k hh e.symm)
  refine ⟨by rw [List.length_append]; exact hown, ?_, ?_⟩
  · intro i x q hx hq
    by_cases hi : i < rows.length
    · rw [List.getElem?_append_left (by omega)] at hx
      rw [List.getElem?_append_left hi] at hq
      have ho := h.2.1 i x q hx hq
      exact (ho.alloc o).kept hg (apart ho)
    · have hi' : i = rows.length := by
        have := (List.getElem?_eq_some_iff.1 hq).1
        simp at this; omega
      subst hi'
      rw [List.getElem?_append_right (by omega), hlen, Nat.sub_self] at hx
      rw [List.getElem?_append_right (by omega), Nat.sub_self] at hq
      cases hx; cases hq
      exact (hu.alloc o).kept hg (apart hu)
  · intro i j x y k hij hx hy hxk
    by_cases hj : j < us.length
    · rw [List.getElem?_append_left hj] at hy
      rw [List.getElem?_append_left (by omega)] at hx
      exact h.2.2 i j x y k hij hx hy hxk
    · have hj' : j = us.length := by
        have := (List.getElem?_eq_some_iff.1 hy).1
        simp at this; omega
      subst hj'
      rw [List.getElem?_append_right (by omega), Nat.sub_self] at hy
      rw [List.getElem?_append_left hij] at hx
      cases hy
      exact hf x (List.mem_of_getElem? hx) k hxk
theorem pickKept {w w6 : World} {C D : Nat} {sv ov : Value} {us : List Value} {rows : List (List Int)} {o : Obj} (h : OwnGR C D w sv us rows) (hne : ∀ k, ov.ownBlock = some k → k < C ∨ D ≤ k) (hg : (w.alloc o).grownBy w6 ov.ownBlock) : OwnGR C D w6 sv us rows := by
  have key : ∀ {x : Value} {t : TypeId} {m : Nat} {q : List Value}, w.ownsRow C t 1 x m q → (∀ k, x.ownBlock = some k → k < D) → x.ownBlock = none ∨ x.ownBlock ≠ ov.ownBlock := fun {x t m q} hx hb => by
    cases hh : x.ownBlock with
    | none => exact .inl rfl
    | some k => exact .inr (fun e => by
        have h1 := (hx.lt k hh).1
        have h2 := hb k hh
        rcases hne k e.symm with h3 | h3 <;> omega)
  exact ⟨⟨(h.1.1.alloc o).kept hg (key h.1.1 h.2.1), fun i x q hx hq => ((h.1.2.1 i x q hx hq).alloc o).kept hg (key (h.1.2.1 i x q hx hq) (fun k hk => h.2.2 i x k hx hk)), h.1.2.2⟩, h.2⟩
/-- rows of a table sv (blocks from C to D), the first i of them, named in a table ov of the call's own -/
def Pick (w : World) (B C D i : Nat) (ov sv : Value) (os us : List Value) (O S : List (List Int)) : Prop :=
  OwnG w B ov os O ∧ OwnGR C D w sv us S ∧ (∀ u ∈ os, ∃ j, j < i ∧ us[j]? = some u) ∧ (∀ k, ov.ownBlock = some k → k < C ∨ D ≤ k) ∧ B ≤ C ∧ D ≤ w.heap.size
theorem Pick.below {w w' : World} {B C D i : Nat} {ov sv : Value} {os us : List Value} {O S : List (List Int)} (h : Pick w B C D i ov sv os us O S) (hb : Below w.heap.size w w') : Pick w' B C D i ov sv os us O S :=
  ⟨h.1.below hb, h.2.1.below hb, h.2.2.1, h.2.2.2.1, h.2.2.2.2.1, Nat.le_trans h.2.2.2.2.2 hb.size⟩
theorem Pick.more {w : World} {B C D i j : Nat} {ov sv : Value} {os us : List Value} {O S : List (List Int)} (h : Pick w B C D i ov sv os us O S) (hij : i ≤ j) : Pick w B C D j ov sv os us O S :=
  ⟨h.1, h.2.1, fun u hu => by obtain ⟨k, h1, h2⟩ := h.2.2.1 u hu; exact ⟨k, by omega, h2⟩, h.2.2.2⟩
theorem Pick.push {w w6 : World} {B C D i j : Nat} {ov sv v6 u : Value} {os us : List Value} {O S : List (List Int)} {r : List Int} {o : Obj} (h : Pick w B C D i ov sv os us O S) (hu : us[j]? = some u) (hr : S[j]? = some r) (hij : i ≤ j)
    (hown : w6.ownsRow B 37 1 v6 (O.length + 1) (os ++ [u])) (hg : (w.alloc o).grownBy w6 ov.ownBlock) (hl : v6.ownBlock = ov.ownBlock ∨ v6.ownBlock = some (w.alloc o).heap.size) : Pick w6 B C D (j + 1) v6 sv (os ++ [u]) us (O ++ [r]) S := by
  obtain ⟨h1, h2, h3, h4, h5, h6⟩ := h
  refine ⟨pickPush h1 (own_base (h2.1.2.1 j u r hu hr) h5) (fun x hx k hk => ?_) hown hg, pickKept h2 h4 hg, fun y hy => ?_, fun k hk => ?_, h5, ?_⟩
  · obtain ⟨m, hm, hm2⟩ := h3 x hx
    exact h2.1.2.2 m j x u k (by omega) hm2 hu hk
  · rcases List.mem_append.1 hy with hy | hy
    · obtain ⟨m, hm, hm2⟩ := h3 y hy; exact ⟨m, by omega, hm2⟩
    · rw [List.mem_singleton.1 hy]; exact ⟨j, by omega, hu⟩
  · rcases hl with e | e
    · exact h4 k (e.symm.trans hk)
    · rw [e, World.size_alloc] at hk
      have := Option.some.inj hk
      exact .inr (by omega)
  · have := hg.size
    rw [World.size_alloc] at this
    omega
end Go.Proofs.Ytdhbaegkogklgaa.ups

/- Guards: the contract of the model's CoverFamily. -/
namespace Go.Proofs.Ytdhbaegkogklgaa.ups
open Go.RowKit P2 words edges ints owns good adjs fns sets rets covs bags balls bitsI func costs grid gridr gridl trip
set_option linter.unusedVariables false

theorem rowN_snocC (P : List Nat) (a : Nat) : rowN (P ++ [a]) = rowN P ++ [ndN a] := by simp [rowN]
theorem has_ndC {b x : Nat} (hb : b < 256) : decide ((x : Int) ∈ ndN b) = b.testBit x := by
  unfold ndN
  rw [Bool.eq_iff_iff, decide_eq_true_iff, mem_nw]
  constructor
  · rintro ⟨j, hj, hp, e⟩
    obtain rfl : x = j := by omega
    exact hp
  · intro h
    refine ⟨x, ?_, h, rfl⟩
    rcases Nat.lt_or_ge x 8 with h8 | h8
    · exact h8
    · have hle : 256 ≤ 2 ^ x := by have := Nat.pow_le_pow_right (show 0 < 2 by decide) h8; simpa using this
      rw [Nat.testBit_lt_two_pow (by omega)] at h; cases h
set_option maxHeartbeats 16000000 in
set_option maxRecDepth 100000 in
theorem specCf_any (s : Int) (v : Value) (A2 : Option Addr) (c2 : Nat) (us : List Value) (q : List (List Int)) (l : List Ed) (w : World) (h : Edges w v l) (hl : l.length ≤ 1048576) (ht : ReadsG w (.slice A2 q.length c2) us q) (hql : q.length ≤ 1048576) (hqr : ∀ r ∈ q, r.length ≤ 1048576) (hs1 : -9223372036854775808 ≤ s) (hs2 : s ≤ 9223372036854775807) :
    Calls Try.prog 11 #[.agg #[.int .i64 s, v], .slice A2 q.length c2] w (RetGr w (CovP s l q) (rowN (cfN s q))) := by
  obtain ⟨A, c, rfl, -⟩ := h.form
  obtain ⟨i1, hi1, hy0, hy1, hy2⟩ := info_parts infoRow
  have H := Lib.hid h
  have HT := Lib.hid ht
  have b0 : Below w.heap.size w ((w.alloc (.cells #[.int .i64 s, .slice A l.length c] 30)).alloc (.cells #[] 37)) := ((Below.refl _ _).alloc (Nat.le_refl _) _).alloc (by simp) _
  have g0 := (Blk.new w 30 #[.int .i64 s, .slice A l.length c]).alloc (.cells #[] 37)
  have o0 := own_new0 (w.alloc (.cells #[.int .i64 s, .slice A l.length c] 30)) 37 1
  rw [World.size_alloc] at o0
  obtain ⟨p0, p1, -, -⟩ := g0.two
  have HGD := Lib.hid (l2Good_any s _ l _ (h.below b0) hl hs1 hs2)
  have HB0 := Lib.hid b0
  have HG0 := Lib.hid g0
  have HO0 := Lib.hid (own_base (B' := w.heap.size) o0 (by omega))
  clear h b0 g0 o0 ht
  by_cases hgd : P2.Good s l
  · rw [goodB_yes hgd] at HGD
    have h0 := hgd.1
    have h8 := hgd.2.1
    obtain ⟨n, rfl⟩ : ∃ n : Nat, s = (n : Int) := ⟨s.toNat, by omega⟩
    have hn : n ≤ 8 := by omega
    have HCO := Lib.hid (fun (W : World) (hW : Below w.heap.size w W) => l10Cover_any n (.slice A l.length c) A2 c2 us q l W (H.out.below hW) hl (HT.out.below hW) hql hqr hgd hn)
    by_cases hcv : CvP n l q
    · have HOK : Hid (CovP (n : Int) l q) := (covP_is hgd).2 hcv
      rw [okG_yes hcv] at HCO
      have hq8 := cv_len hn hcv
      have HSE := Lib.hid (fun (W : World) => l10Sets_any n q.length (.slice A l.length c) W hn hq8)
      have hsl := setsK_len hn hq8
      have HL8 : Hid (∀ c ∈ setsK n q.length, c < 256) := fun c hc => Nat.lt_of_lt_of_le ((setsK_mem hn hq8).1 hc).1 (pow_le hn)
      have HV : Hid (cfN (n : Int) q = pfN (cfB q) (setsK n q.length) (setsK n q.length).length) := by show _ = _; rw [pfN_all]; unfold cfN cfK; rw [Int.toNat_natCast]
      have HHIT : Hid (∀ (k : Nat) (xs : List Int) (c : Nat), q[k]? = some xs → hitN c xs xs.length = onesN (codeL xs &&& c) ∧ ∀ x ∈ xs, 0 ≤ x) := fun k xs c hx => ⟨hit_all hn (cv_set hcv hx), fun x h9 => ((cv_set hcv hx).2.1 x h9).1⟩
      have HNL : Hid (∀ c, (ndN c).length ≤ 8) := fun c => nw_len _ _
      have HRT := Lib.hid (rowN_len (setsK n q.length))
      have HONB := Lib.hid (oneB_all q)
      clear hgd hcv
      generalize setsK n q.length = LK at *
      go_enter Try.func11, Try.ntmps11
      go_wp2_with fail
      refine HGD.out.mono ?_
      rintro e w1 ⟨rfl, b1⟩
      have HE1 := Lib.hid (btrans HB0.out b1)
      have HG1 := Lib.hid (HG0.out.below b1 HG0.out.lt)
      have HO1 := Lib.hid (own_below HO0.out b1)
      clear p0 p1 b1
      obtain ⟨p0, p1, -, -⟩ := HG1.out.two
      go_wp2_with fail
      refine (HCO.out w1 HE1.out).mono ?_
      rintro e w2 ⟨rfl, b2⟩
      have HE2 := Lib.hid (btrans HE1.out b2)
      have HG2 := Lib.hid (HG1.out.below b2 HG1.out.lt)
      have HO2 := Lib.hid (own_below HO1.out b2)
      clear p0 p1 b2
      obtain ⟨p0, p1, -, -⟩ := HG2.out.two
      go_wp2_with fail
      refine (HSE.out w2).mono ?_
      rintro e w3 ⟨A5, c5, us5, rfl, o5, b3⟩
      have HE3 := Lib.hid (btrans HE2.out b3)
      have HO3 := Lib.hid (own_below HO2.out b3)
      have hz2 := HE2.out.size
      have hz3 := b3.size
      have HPK : Hid (Pick w3 w.heap.size w2.heap.size w3.heap.size 0 (.slice (some ⟨w.heap.size + 1, 0, none⟩) 0 0) (.slice A5 (rowN LK).length c5) [] us5 (rowN (pfN (cfB q) LK 0)) (rowN LK)) :=
        ⟨⟨HO3.out, fun i u r hu => by simp at hu, fun i j u u' k _ hu => by simp at hu⟩, gridl.OwnGR.new o5, fun u hu => by simp at hu, fun k hk => .inl (HO2.out.lt k hk).2, hz2, Nat.le_refl _⟩
      clear p0 p1 b3 o5 HO0 HO1 HO2 HO3
      go_wp2_with fail
      go_loopg [6, 8] LK.length (fun g ov iv wr => ∃ (i : Nat) (ow : Value) (os : List Value), ow = ov ∧ i + g = LK.length ∧ iv = .int .i64 (i : Int) ∧ Pick wr w.heap.size w2.heap.size w3.heap.size i ow (.slice A5 (rowN LK).length c5) os us5 (rowN (pfN (cfB q) LK i)) (rowN LK) ∧ Below w.heap.size w wr)
      case atStart => exact ⟨0, _, [], rfl, by omega, rfl, HPK.out, HE3.out⟩
      case round =>
        clear HPK
        obtain ⟨i, ow, os, rfl, hig, rfl, hpk, hB⟩ := hrel
        obtain ⟨A7, c7, rfl⟩ := own_form hpk.1.1
        have HB := Lib.hid hB
        have HPK := Lib.hid hpk
        cases gk with
        | zero =>
          obtain rfl : i = LK.length := by omega
          have hnl : ¬ ((LK.length : Int) < ((rowN LK).length : Int)) := by rw [HRT.out]; omega
          clear hpk hB
          go_wp2_with fail
          go_ret2
          rw [HV.out]
          exact RetGr.yes HOK.out HPK.out.1 HB.out
        | succ g2 =>
          have hlt : i < LK.length := by omega
          have hil' : (i : Int) < ((rowN LK).length : Int) := by rw [HRT.out]; omega
          obtain ⟨d, hd⟩ : ∃ d, LK[i]? = some d := ⟨_, List.getElem?_eq_getElem hlt⟩
          have hd8 := HL8.out d (List.mem_of_getElem? hd)
          obtain ⟨u, g5, o5, hu, hA5, cs, hru⟩ := (gridl.readsG_of_own hpk.2.1.1).row (rowN_at hd)
          subst hA5
          obtain ⟨Ar, cr, rfl, -⟩ := hru.form
          have HRU := Lib.hid hru
          have HCS := Lib.hid cs
          have HRD := Lib.hid (rowN_at hd)
          have HU5 := Lib.hid hu
          have HPY := Lib.hid (fun (h : cfB q d = true) => pfN_yes hd h)
          have HPN := Lib.hid (fun (h : cfB q d = false) => pfN_no hd h)
          have hOl := pfN_len (cfB q) LK i
          have HON0 : Hid (oneB q d 0 = true) := rfl
          have HHA := Lib.hid (fun (x : Nat) (W : World) (hW : Below wr.heap.size wr W) => (by have h_ := l1Has_any (.slice Ar (ndN d).length cr) (ndN d) (x : Int) W (hru.below hW) (by have := HNL.out d; omega); rw [has_ndC hd8] at h_; exact h_ : Calls Try.prog 37 #[.slice Ar (ndN d).length cr, .int .i64 (x : Int)] W fun e w' => e = .returned (.bool (d.testBit x)) ∧ W = w'))
          obtain ⟨wo, hwo⟩ : ∃ wo, wo = wr := ⟨_, rfl⟩
          subst hwo
          clear hd hu hru hpk hB cs
          generalize pfN (cfB q) LK i = PO at *
          go_wp2_with fail
          go_loopg [9, 10] q.length (fun g bv kv wx => ∃ k : Nat, k + g = q.length ∧ kv = .int .i64 (k : Int) ∧ bv = .bool (oneB q d k) ∧ Below wo.heap.size wo wx)
          case atStart => exact ⟨0, by omega, rfl, by rw [HON0.out], Below.refl _ _⟩
          case round =>
            clear HON0
            obtain ⟨k, hkg, rfl, rfl, hB2⟩ := hrel
            have HB2 := Lib.hid hB2
            cases gk with
            | zero =>
              obtain rfl : k = q.length := by omega
              rw [HONB.out d]
              have cs2 := nearv.cell_keep HCS.out hB2
              cases hcf : cfB q d with
              | true =>
                have HN := Lib.hid (HPY.out hcf)
                have HPK2 := Lib.hid (HPK.out.below hB2)
                have HBW := Lib.hid (btrans HB.out hB2)
                have hown0 := HPK2.out.1.1
                have hsz := HBW.out.size
                have hul : os.length ≤ 256 := by have := HPK.out.1.len; have := rowN_len PO; omega
                have hol2 : (rowN PO).length ≤ 256 := by have := rowN_len PO; omega
                have HSN := Lib.hid (rowN_snocC PO d)
                clear hcf hB2 HPY HPN
                generalize rowN PO = Oj at *
                go_wp2_with (at_builtin; refine wpList_append_own_at _ rfl _ _ 25 rfl w.heap.size 37 i1 (.slice none 0 0) 1 24 Try.underlying25 hi1 hy0 hy1 hy2 rfl (by decide) _ _ _ rfl (hown0.alloc _) ⟨wr.heap.size, 0, none⟩ 1 1 [.slice Ar (ndN d).length cr] rfl rfl (cell_one_new _ _ _) (fun x hx => by simp at hx; subst hx; rfl) (by unfold maxLen; omega) (by omega) (by simp; omega) ?_; intro v10 w10 hown10 hgrow10 _ hl10)
                have HPK3 := Lib.hid (HPK2.out.push HU5.out HRD.out (Nat.le_refl _) hown10 hgrow10 hl10)
                have HB10 := Lib.hid ((HBW.out.alloc hsz (.cells #[.slice Ar (ndN d).length cr] 37)).grown hgrow10 (by simp; omega) (fun p_ e_ => (hown0.lt p_ e_).1))
                clear hown10 hgrow10 hl10 hown0 cs2
                go_roundg g2
                case measure => omega
                case rel => exact ⟨i + 1, v10, _, rfl, by omega, by go_num, by rw [HN.out, HSN.out]; exact HPK3.out, HB10.out⟩
              | false =>
                have HN := Lib.hid (HPN.out hcf)
                have HPK2 := Lib.hid ((HPK.out.below hB2).more (Nat.le_succ i))
                have HBW := Lib.hid (btrans HB.out hB2)
                clear hcf hB2 HPY HPN cs2
                go_wp2_with fail
                go_roundg g2
                case measure => omega
                case rel => exact ⟨i + 1, _, os, rfl, by omega, by go_num, by rw [HN.out]; exact HPK2.out, HBW.out⟩
            | succ g3 =>
              have hkl : k < q.length := by omega
              have hkl' : (k : Int) < (q.length : Int) := by omega
              obtain ⟨xs, hxs⟩ : ∃ xs, q[k]? = some xs := ⟨_, List.getElem?_eq_getElem hkl⟩
              have hxl := hqr xs (List.mem_of_getElem? hxs)
              obtain ⟨uq, gq, oq, huq, hAq, cq, hq⟩ := (HT.out.below (btrans HB.out hB2)).row hxs
              subst hAq
              obtain ⟨Ax, cx, rfl, -⟩ := hq.form
              have HQ := Lib.hid hq
              have HCQ := Lib.hid cq
              have HIT := Lib.hid (HHIT.out k xs d hxs).1
              have HPOS := Lib.hid (HHIT.out k xs d hxs).2
              have HONS := Lib.hid (oneB_succ (c := d) hxs)
              have HZ0 : Hid (hitN d xs 0 = 0) := rfl
              obtain ⟨wp, hwp⟩ : ∃ wp, wp = wr := ⟨_, rfl⟩
              subst hwp
              clear hxs huq hq cq hB2
              generalize oneB q d k = ob at *
              go_wp2_with fail
              go_loopg [11, 12] xs.length (fun g cv jv wy => ∃ j : Nat, j + g = xs.length ∧ jv = .int .i64 (j : Int) ∧ cv = .int .i64 (hitN d xs j : Int) ∧ Below wp.heap.size wp wy)
              case atStart => exact ⟨0, by omega, rfl, by rw [HZ0.out]; rfl, Below.refl _ _⟩
              case round =>
                clear HZ0
                obtain ⟨j, hjg, rfl, rfl, hB3⟩ := hrel
                have HB3 := Lib.hid hB3
                have cq3 := nearv.cell_keep HCQ.out hB3
                have cs3 := nearv.cell_keep (nearv.cell_keep HCS.out HB2.out) hB3
                cases gk with
                | zero =>
                  obtain rfl : j = xs.length := by omega
                  have HBX := Lib.hid (btrans HB2.out hB3)
                  rw [HIT.out]
                  clear hB3
                  generalize onesN (codeL xs &&& d) = z at *
                  cases ob with
                  | false =>
                    go_wp2_with fail
                    go_roundg g3
                    case measure => omega
                    case rel => exact ⟨k + 1, by omega, by go_num, by rw [HONS.out]; rfl, HBX.out⟩
                  | true =>
                    by_cases hz : z = 1
                    · have hq1 : (((z : Nat) : Int) == 1) = true := by rw [beq_iff_eq]; omega
                      have HR : Hid (oneB q d (k + 1) = true) := by show _ = _; rw [HONS.out, hz]; rfl
                      clear hz
                      go_wp2_with fail
                      go_roundg g3
                      case measure => omega
                      case rel => exact ⟨k + 1, by omega, by go_num, by rw [HR.out], HBX.out⟩
                    · have hq1 : (((z : Nat) : Int) == 1) = false := by rw [beq_eq_false_iff_ne]; omega
                      have hq2 : (z == 1) = false := by rw [beq_eq_false_iff_ne]; exact hz
                      have HR : Hid (oneB q d (k + 1) = false) := by show _ = _; rw [HONS.out, hq2]; rfl
                      clear hz
                      go_wp2_with fail
                      go_roundg g3
                      case measure => omega
                      case rel => exact ⟨k + 1, by omega, by go_num, by rw [HR.out], HBX.out⟩
                | succ g4 =>
                  have hjl : j < xs.length := by omega
                  have hjl' : (j : Int) < (xs.length : Int) := by omega
                  obtain ⟨x, hx⟩ : ∃ x, xs[j]? = some x := ⟨_, List.getElem?_eq_getElem hjl⟩
                  have hx0 := HPOS.out x (List.mem_of_getElem? hx)
                  obtain ⟨y, rfl⟩ : ∃ y : Nat, x = (y : Int) := ⟨x.toNat, by omega⟩
                  obtain ⟨_, _, e1, hcc⟩ := (show Ints wr (.slice Ax xs.length cx) xs from HQ.out.below hB3).form
                  cases e1
                  obtain ⟨g1, o1, rfl, q1⟩ := hcc j _ hx
                  have HS := hit_succ (c := d) hx
                  rw [Int.toNat_natCast] at HS
                  have HHY := Lib.hid (HHA.out y wr.drew (btrans HB2.out hB3).drew)
                  have hle := hit_le d xs j
                  cases hbt : d.testBit y with
                  | true =>
                    rw [hbt] at HHY HS
                    have HN := Lib.hid HS
                    have hw1 : IntKind.i64.wrap ((hitN d xs j : Int) + 1) = ((hitN d xs (j + 1) : Nat) : Int) := by rw [IntWalk.i64_in _ (by omega), HN.out]; rfl
                    clear hbt hx hcc hB3 HS
                    generalize hitN d xs j = hv at *
                    go_wp2_with fail
                    refine wp_region_held_drew (S := (fun w' : World => w'.cell? ⟨g5, o5 + i, none⟩ = some (.slice Ar (ndN d).length cr) ∧ w'.cell? ⟨gq, oq + k, none⟩ = some (.slice (some ⟨g1, o1, none⟩) xs.length cx) ∧ w'.cell? ⟨g1, o1 + j, none⟩ = some (.int .i64 (y : Int)))) (by kernel_rfl) (by (try dsimp only); simp [*]) (fun hHeld => ?_)
                    change wpAnyH _ _ _ _ _ _ #[false, false, false, false, false, false, false, false, false, false, false, false] _ _
                    refine wpAnyH_take (i := 0) (oi := ⟨some 49, _, _, _, _, _⟩) (v := ?_) rfl (by kernel_rfl) (by kernel_rfl) (by kernel_rfl) (fun _ _ _ h => h) (Or.inl ⟨by rfl, ?_⟩) (by assumption) ?_
                    rotate_left
                    · (intro w hSw; (try dsimp only at hSw); go_simp; (try (with_reducible rfl)))
                    try simp only [Act.put, List.setIfInBounds_toArray, List.set_cons_zero, List.set_cons_succ]
                    refine wpAnyH_take (i := 1) (oi := ⟨some 50, _, _, _, _, _⟩) (v := ?_) rfl (by kernel_rfl) (by kernel_rfl) (by kernel_rfl) (fun _ _ _ h => h) (Or.inl ⟨by rfl, ?_⟩) (by assumption) ?_
                    rotate_left
                    · (intro w hSw; (try dsimp only at hSw); go_simp; (try (with_reducible rfl)))
                    try simp only [Act.put, List.setIfInBounds_toArray, List.set_cons_zero, List.set_cons_succ]
                    refine wpAnyH_take (i := 2) (oi := ⟨some 51, _, _, _, _, _⟩) (v := ?_) rfl (by kernel_rfl) (by kernel_rfl) (by kernel_rfl) (fun _ _ _ h => h) (Or.inl ⟨by rfl, ?_⟩) (by assumption) ?_
                    rotate_left
                    · (intro w hSw; (try dsimp only at hSw); go_simp; (try (with_reducible rfl)))
                    try simp only [Act.put, List.setIfInBounds_toArray, List.set_cons_zero, List.set_cons_succ]
                    refine wpAnyH_take (i := 3) (oi := ⟨some 52, _, _, _, _, _⟩) (v := ?_) rfl (by kernel_rfl) (by kernel_rfl) (by kernel_rfl) (fun _ _ _ h => h) (Or.inl ⟨by rfl, ?_⟩) (by assumption) ?_
                    rotate_left
                    · (intro w hSw; (try dsimp only at hSw); go_simp; (try (with_reducible rfl)))
                    try simp only [Act.put, List.setIfInBounds_toArray, List.set_cons_zero, List.set_cons_succ]
                    refine wpAnyH_take (i := 4) (oi := ⟨some 53, _, _, _, _, _⟩) (v := ?_) rfl (by kernel_rfl) (by kernel_rfl) (by kernel_rfl) (fun _ _ _ h => h) (Or.inl ⟨by rfl, ?_⟩) (by assumption) ?_
                    rotate_left
                    · (intro w hSw; (try dsimp only at hSw); go_simp; (try (with_reducible rfl)))
                    try simp only [Act.put, List.setIfInBounds_toArray, List.set_cons_zero, List.set_cons_succ]
                    refine wpAnyH_take (i := 5) (oi := ⟨some 54, _, _, _, _, _⟩) (v := ?_) rfl (by kernel_rfl) (by kernel_rfl) (by kernel_rfl) (fun _ _ _ h => h) (Or.inl ⟨by rfl, ?_⟩) (by assumption) ?_
                    rotate_left
                    · (intro w hSw; (try dsimp only at hSw); go_simp; (try (with_reducible rfl)))
                    try simp only [Act.put, List.setIfInBounds_toArray, List.set_cons_zero, List.set_cons_succ]
                    refine wpAnyH_take (i := 6) (oi := ⟨some 55, _, _, _, _, _⟩) (v := ?_) rfl (by kernel_rfl) (by kernel_rfl) (by kernel_rfl) (fun _ _ _ h => h) (Or.inl ⟨by rfl, ?_⟩) (by assumption) ?_
                    rotate_left
                    · (intro w hSw; (try dsimp only at hSw); go_simp; (try (with_reducible rfl)))
                    try simp only [Act.put, List.setIfInBounds_toArray, List.set_cons_zero, List.set_cons_succ]
                    refine wpAnyH_take (i := 7) (oi := ⟨some 56, _, _, _, _, _⟩) (v := ?_) rfl (by kernel_rfl) (by kernel_rfl) (by kernel_rfl) (fun _ _ _ h => h) (Or.inl ⟨by rfl, ?_⟩) (by assumption) ?_
                    rotate_left
                    · (intro w hSw; (try dsimp only at hSw); go_simp; (try (with_reducible rfl)))
                    try simp only [Act.put, List.setIfInBounds_toArray, List.set_cons_zero, List.set_cons_succ]
                    refine wpAnyH_take (i := 8) (oi := ⟨some 57, _, _, _, _, _⟩) (v := ?_) rfl (by kernel_rfl) (by kernel_rfl) (by kernel_rfl) (fun _ _ _ h => h) (Or.inl ⟨by rfl, ?_⟩) (by assumption) ?_
                    rotate_left
                    · (intro w hSw; (try dsimp only at hSw); go_simp; (try (with_reducible rfl)))
                    try simp only [Act.put, List.setIfInBounds_toArray, List.set_cons_zero, List.set_cons_succ]
                    refine wpAnyH_take (i := 9) (oi := ⟨some 58, _, _, _, _, _⟩) (v := ?_) rfl (by kernel_rfl) (by kernel_rfl) (by kernel_rfl) (fun _ _ _ h => h) (Or.inl ⟨by rfl, ?_⟩) (by assumption) ?_
                    rotate_left
                    · (intro w hSw; (try dsimp only at hSw); go_simp; (try (with_reducible rfl)))
                    try simp only [Act.put, List.setIfInBounds_toArray, List.set_cons_zero, List.set_cons_succ]
                    refine wpAnyH_take (i := 10) (oi := ⟨some 59, _, _, _, _, _⟩) (v := ?_) rfl (by kernel_rfl) (by kernel_rfl) (by kernel_rfl) (fun _ _ _ h => h) (Or.inl ⟨by rfl, ?_⟩) (by assumption) ?_
                    rotate_left
                    · (intro w hSw; (try dsimp only at hSw); go_simp; (try (with_reducible rfl)))
                    try simp only [Act.put, List.setIfInBounds_toArray, List.set_cons_zero, List.set_cons_succ]
                    refine wpAnyH_ready (rs := [11]) (by kernel_rfl) (by simp) ?_
                    refine AllReadyH.cons (o := ⟨some 60, _, _, _, _, _⟩) rfl (fun K hK => ?_) AllReadyH.nil
                    go_simp
                    (with_reducible refine HHY.out.mono ?_); rintro e w' ⟨rfl, rfl⟩
                    go_wp2_with fail
                    refine hK.out _ _ (by (try dsimp only); simp [*]) (fun hHeld => ?_)
                    clear hK K
                    try simp only [List.setIfInBounds_toArray, List.set_cons_zero, List.set_cons_succ]
                    refine wpAnyH_done (by kernel_rfl) ?_ _
                    go_wp2_with fail
                    go_roundg g4
                    case measure => omega
                    case rel => exact ⟨j + 1, by omega, by go_num, by first | rfl | rw [hw1], HB3.out.drew⟩
                  | false =>
                    rw [hbt] at HHY HS
                    have HN : Hid (hitN d xs (j + 1) = hitN d xs j) := by show _ = _; simpa using HS
                    clear hbt hx hcc hB3 HS
                    go_wp2_with fail
                    refine wp_region_held_drew (S := (fun w' : World => w'.cell? ⟨g5, o5 + i, none⟩ = some (.slice Ar (ndN d).length cr) ∧ w'.cell? ⟨gq, oq + k, none⟩ = some (.slice (some ⟨g1, o1, none⟩) xs.length cx) ∧ w'.cell? ⟨g1, o1 + j, none⟩ = some (.int .i64 (y : Int)))) (by kernel_rfl) (by (try dsimp only); simp [*]) (fun hHeld => ?_)
                    change wpAnyH _ _ _ _ _ _ #[false, false, false, false, false, false, false, false, false, false, false, false] _ _
                    refine wpAnyH_take (i := 0) (oi := ⟨some 49, _, _, _, _, _⟩) (v := ?_) rfl (by kernel_rfl) (by kernel_rfl) (by kernel_rfl) (fun _ _ _ h => h) (Or.inl ⟨by rfl, ?_⟩) (by assumption) ?_
                    rotate_left
                    · (intro w hSw; (try dsimp only at hSw); go_simp; (try (with_reducible rfl)))
                    try simp only [Act.put, List.setIfInBounds_toArray, List.set_cons_zero, List.set_cons_succ]
                    refine wpAnyH_take (i := 1) (oi := ⟨some 50, _, _, _, _, _⟩) (v := ?_) rfl (by kernel_rfl) (by kernel_rfl) (by kernel_rfl) (fun _ _ _ h => h) (Or.inl ⟨by rfl, ?_⟩) (by assumption) ?_
                    rotate_left
                    · (intro w hSw; (try dsimp only at hSw); go_simp; (try (with_reducible rfl)))
                    try simp only [Act.put, List.setIfInBounds_toArray, List.set_cons_zero, List.set_cons_succ]
                    refine wpAnyH_take (i := 2) (oi := ⟨some 51, _, _, _, _, _⟩) (v := ?_) rfl (by kernel_rfl) (by kernel_rfl) (by kernel_rfl) (fun _ _ _ h => h) (Or.inl ⟨by rfl, ?_⟩) (by assumption) ?_
                    rotate_left
                    · (intro w hSw; (try dsimp only at hSw); go_simp; (try (with_reducible rfl)))
                    try simp only [Act.put, List.setIfInBounds_toArray, List.set_cons_zero, List.set_cons_succ]
                    refine wpAnyH_take (i := 3) (oi := ⟨some 52, _, _, _, _, _⟩) (v := ?_) rfl (by kernel_rfl) (by kernel_rfl) (by kernel_rfl) (fun _ _ _ h => h) (Or.inl ⟨by rfl, ?_⟩) (by assumption) ?_
                    rotate_left
                    · (intro w hSw; (try dsimp only at hSw); go_simp; (try (with_reducible rfl)))
                    try simp only [Act.put, List.setIfInBounds_toArray, List.set_cons_zero, List.set_cons_succ]
                    refine wpAnyH_take (i := 4) (oi := ⟨some 53, _, _, _, _, _⟩) (v := ?_) rfl (by kernel_rfl) (by kernel_rfl) (by kernel_rfl) (fun _ _ _ h => h) (Or.inl ⟨by rfl, ?_⟩) (by assumption) ?_
                    rotate_left
                    · (intro w hSw; (try dsimp only at hSw); go_simp; (try (with_reducible rfl)))
                    try simp only [Act.put, List.setIfInBounds_toArray, List.set_cons_zero, List.set_cons_succ]
                    refine wpAnyH_take (i := 5) (oi := ⟨some 54, _, _, _, _, _⟩) (v := ?_) rfl (by kernel_rfl) (by kernel_rfl) (by kernel_rfl) (fun _ _ _ h => h) (Or.inl ⟨by rfl, ?_⟩) (by assumption) ?_
                    rotate_left
                    · (intro w hSw; (try dsimp only at hSw); go_simp; (try (with_reducible rfl)))
                    try simp only [Act.put, List.setIfInBounds_toArray, List.set_cons_zero, List.set_cons_succ]
                    refine wpAnyH_take (i := 6) (oi := ⟨some 55, _, _, _, _, _⟩) (v := ?_) rfl (by kernel_rfl) (by kernel_rfl) (by kernel_rfl) (fun _ _ _ h => h) (Or.inl ⟨by rfl, ?_⟩) (by assumption) ?_
                    rotate_left
                    · (intro w hSw; (try dsimp only at hSw); go_simp; (try (with_reducible rfl)))
                    try simp only [Act.put, List.setIfInBounds_toArray, List.set_cons_zero, List.set_cons_succ]
                    refine wpAnyH_take (i := 7) (oi := ⟨some 56, _, _, _, _, _⟩) (v := ?_) rfl (by kernel_rfl) (by kernel_rfl) (by kernel_rfl) (fun _ _ _ h => h) (Or.inl ⟨by rfl, ?_⟩) (by assumption) ?_
                    rotate_left
                    · (intro w hSw; (try dsimp only at hSw); go_simp; (try (with_reducible rfl)))
                    try simp only [Act.put, List.setIfInBounds_toArray, List.set_cons_zero, List.set_cons_succ]
                    refine wpAnyH_take (i := 8) (oi := ⟨some 57, _, _, _, _, _⟩) (v := ?_) rfl (by kernel_rfl) (by kernel_rfl) (by kernel_rfl) (fun _ _ _ h => h) (Or.inl ⟨by rfl, ?_⟩) (by assumption) ?_
                    rotate_left
                    · (intro w hSw; (try dsimp only at hSw); go_simp; (try (with_reducible rfl)))
                    try simp only [Act.put, List.setIfInBounds_toArray, List.set_cons_zero, List.set_cons_succ]
                    refine wpAnyH_take (i := 9) (oi := ⟨some 58, _, _, _, _, _⟩) (v := ?_) rfl (by kernel_rfl) (by kernel_rfl) (by kernel_rfl) (fun _ _ _ h => h) (Or.inl ⟨by rfl, ?_⟩) (by assumption) ?_
                    rotate_left
                    · (intro w hSw; (try dsimp only at hSw); go_simp; (try (with_reducible rfl)))
                    try simp only [Act.put, List.setIfInBounds_toArray, List.set_cons_zero, List.set_cons_succ]
                    refine wpAnyH_take (i := 10) (oi := ⟨some 59, _, _, _, _, _⟩) (v := ?_) rfl (by kernel_rfl) (by kernel_rfl) (by kernel_rfl) (fun _ _ _ h => h) (Or.inl ⟨by rfl, ?_⟩) (by assumption) ?_
                    rotate_left
                    · (intro w hSw; (try dsimp only at hSw); go_simp; (try (with_reducible rfl)))
                    try simp only [Act.put, List.setIfInBounds_toArray, List.set_cons_zero, List.set_cons_succ]
                    refine wpAnyH_ready (rs := [11]) (by kernel_rfl) (by simp) ?_
                    refine AllReadyH.cons (o := ⟨some 60, _, _, _, _, _⟩) rfl (fun K hK => ?_) AllReadyH.nil
                    go_simp
                    (with_reducible refine HHY.out.mono ?_); rintro e w' ⟨rfl, rfl⟩
                    go_wp2_with fail
                    refine hK.out _ _ (by (try dsimp only); simp [*]) (fun hHeld => ?_)
                    clear hK K
                    try simp only [List.setIfInBounds_toArray, List.set_cons_zero, List.set_cons_succ]
                    refine wpAnyH_done (by kernel_rfl) ?_ _
                    go_wp2_with fail
                    go_roundg g4
                    case measure => omega
                    case rel => exact ⟨j + 1, by omega, by go_num, by rw [HN.out], HB3.out.drew⟩
    · rw [okG_no hcv] at HCO
      have HNO : Hid (¬ CovP (n : Int) l q) := fun h => hcv ((covP_is hgd).1 h)
      clear hgd hcv
      go_enter Try.func11, Try.ntmps11
      go_wp2_with fail
      refine HGD.out.mono ?_
      rintro e w1 ⟨rfl, b1⟩
      have HE1 := Lib.hid (btrans HB0.out b1)
      have HG1 := Lib.hid (HG0.out.below b1 HG0.out.lt)
      have HO1 := Lib.hid (own_below HO0.out b1)
      clear p0 p1 b1
      obtain ⟨p0, p1, -, -⟩ := HG1.out.two
      go_wp2_with fail
      refine (HCO.out w1 HE1.out).mono ?_
      rintro e w2 ⟨rfl, b2⟩
      have HE2 := Lib.hid (btrans HE1.out b2)
      have HO2 := Lib.hid (own_below HO1.out b2)
      clear p0 p1 b2
      go_wp2_with fail
      go_ret2
      exact RetGr.no HNO.out HO2.out HE2.out
  · rw [goodB_no hgd] at HGD
    have HNO : Hid (¬ CovP s l q) := fun h => hgd h.1
    clear hgd
    go_enter Try.func11, Try.ntmps11
    go_wp2_with fail
    refine HGD.out.mono ?_
    rintro e w1 ⟨rfl, b1⟩
    have HE1 := Lib.hid (btrans HB0.out b1)
    have HO1 := Lib.hid (own_below HO0.out b1)
    clear p0 p1 b1
    go_wp2_with fail
    go_ret2
    exact RetGr.no HNO.out HO1.out HE1.out
theorem cf_len (s : Int) (l : List Ed) (q : List (List Int)) : gridl.tot (gdG (CovP s l q) (rowN (cfN s q))) ≤ 1048576 ∧ (gdG (CovP s l q) (rowN (cfN s q))).length ≤ 1048576 := by
  have hb : CovP s l q → (cfN s q).length ≤ 256 := fun h => by
    have h0 := h.1.1
    have h8 := h.1.2.1
    obtain ⟨n, rfl⟩ : ∃ n : Nat, s = (n : Int) := ⟨s.toNat, by omega⟩
    have hn : n ≤ 8 := by omega
    unfold cfN cfK
    rw [Int.toNat_natCast]
    exact Nat.le_trans (List.length_filter_le _ _) (setsK_len hn (cv_len hn ((covP_is h.1).1 h)))
  by_cases hp : CovP s l q
  · rw [gdG_yes hp, rowN_len]
    have h2 := hb hp
    have h1 : gridl.tot (rowN (cfN s q)) ≤ (cfN s q).length * 8 := by
      unfold gridl.tot rowN
      generalize cfN s q = L
      induction L with
      | nil => simp
      | cons c L ih =>
        have : (ndN c).length ≤ 8 := nw_len _ _
        simp only [List.map_cons, List.sum_cons, List.length_cons] at ih ⊢
        omega
    omega
  · rw [gdG_no hp]; simp [gridl.tot]
end Go.Proofs.Ytdhbaegkogklgaa.ups

/- The laws' helpers over arguments of type [][]int: szIntS, szIntSS, toIntSS. -/
namespace Go.Proofs.Ytdhbaegkogklgaa.gridl
open Go.RowKit P2 words ints grid gridr owns
set_option linter.unusedVariables false

def szS (left m : Int) : Int := if left - m < 0 then -1 else left - m
/-- what is left of a budget behind a slice of slices, -1 if it is used up -/
def szSS (left : Int) (rows : List (List Int)) : Int := if left - (rows.length : Int) < 0 then -1 else szS (left - (rows.length : Int)) (tot rows : Int)
set_option maxHeartbeats 400000 in
theorem szIntS_any (v : Value) (l : List Int) (left : Int) (w : World) (h : Ints w v l) (h0 : 0 ≤ left) (h1 : left ≤ 1048576) (hl : (l.length : Int) ≤ 9223372036854775807) :
    Calls Try.prog 33 #[v, .int .i64 left] w fun e w' => e = .returned (.int .i64 (szS left (l.length : Int))) ∧ w = w' := by
  obtain ⟨A, c, rfl, -⟩ := h.form
  clear h
  have hw : IntKind.i64.wrap (left - (l.length : Int)) = left - (l.length : Int) := IntWalk.i64_in _ (by omega)
  by_cases hn : left - (l.length : Int) < 0
  · have HV : Hid (szS left (l.length : Int) = -1) := by show _ = _; unfold szS; rw [if_pos hn]
    go_enter Try.func33, Try.ntmps33
    go_wp2_with fail
    go_ret
    exact ⟨ret_int HV.out.symm, rfl⟩
  · have HV : Hid (szS left (l.length : Int) = left - (l.length : Int)) := by show _ = _; unfold szS; rw [if_neg hn]
    go_enter Try.func33, Try.ntmps33
    go_wp2_with fail
    go_ret
    exact ⟨ret_int HV.out.symm, rfl⟩
set_option maxHeartbeats 1000000 in
theorem szIntSS_any (v : Value) (us : List Value) (rows : List (List Int)) (left : Int) (w : World) (h : ReadsG w v us rows) (h0 : 0 ≤ left) (h1 : left ≤ 1048576) (hl : (rows.length : Int) ≤ 9223372036854775807) (hr : ∀ r ∈ rows, (r.length : Int) ≤ 9223372036854775807) :
    Calls Try.prog 10 #[v, .int .i64 left] w fun e w' => e = .returned (.int .i64 (szSS left rows)) ∧ w = w' := by
  obtain ⟨A, c, rfl, -⟩ := h.1
  have H := Lib.hid h
  have HR := Lib.hid hr
  clear h hr
  have hw : IntKind.i64.wrap (left - (rows.length : Int)) = left - (rows.length : Int) := IntWalk.i64_in _ (by omega)
  by_cases hn : left - (rows.length : Int) < 0
  · have HV : Hid (szSS left rows = -1) := by show _ = _; unfold szSS; rw [if_pos hn]
    go_enter Try.func10, Try.ntmps10
    go_wp2_with fail
    go_ret
    exact ⟨ret_int HV.out.symm, rfl⟩
  · have HV : Hid (szSS left rows = szS (left - (rows.length : Int)) (tot rows : Int)) := by show _ = _; unfold szSS; rw [if_neg hn]
    go_enter Try.func10, Try.ntmps10
    go_wp2_with fail
    go_loopg [1, 5] rows.length (fun g lv iv wr => ∃ (k : Nat) (b : Int), k + g = rows.length ∧ iv = .int .i64 (k : Int) ∧ lv = .int .i64 b ∧ Hid (b = left - (rows.length : Int) - (tot (rows.take k) : Int) ∧ 0 ≤ b) ∧ w = wr)
    case atStart => exact ⟨0, _, by omega, rfl, rfl, (by show _ ∧ _; simp [tot]; omega), rfl⟩
    case round =>
      obtain ⟨k, b, hkg, rfl, rfl, hb, rfl⟩ := hrel
      cases gk with
      | zero =>
        obtain rfl : k = rows.length := by omega
        have HB : Hid (szSS left rows = b) := by
          show _ = _
          have := hb.out
          rw [HV.out]
          unfold szS
          rw [List.take_length] at this
          rw [if_neg (by omega)]; omega
        go_wp2_with fail
        go_ret
        exact ⟨ret_int HB.out.symm, rfl⟩
      | succ g2 =>
        have hlt : k < rows.length := by omega
        have hlt' : (k : Int) < (rows.length : Int) := by omega
        obtain ⟨r, hrk⟩ : ∃ r, rows[k]? = some r := ⟨_, List.getElem?_eq_getElem hlt⟩
        obtain ⟨u, g, o, hu, rfl, c0, hru⟩ := H.out.row hrk
        have hrl := HR.out r (List.mem_of_getElem? hrk)
        have ht := tot_succ hrk
        have hle := tot_le rows (k + 1)
        have hb0 := hb.out
        have HSZ := Lib.hid (szIntS_any u r b w hru (by omega) (by omega) hrl)
        by_cases hneg : b - (r.length : Int) < 0
        · have HS1 : Hid (szS b (r.length : Int) = -1) := by show _ = _; unfold szS; rw [if_pos hneg]
          have HB : Hid (szSS left rows = -1) := by
            show _ = _
            rw [HV.out]
            unfold szS
            rw [if_pos (by omega)]
          rw [HS1.out] at HSZ
          clear hu hru hrk ht hle hb0
          go_wp2_with fail
          refine HSZ.out.mono ?_
          rintro e w' ⟨rfl, rfl⟩
          go_wp2_with fail
          go_ret
          exact ⟨ret_int HB.out.symm, rfl⟩
        · have HS1 : Hid (szS b (r.length : Int) = b - (r.length : Int)) := by show _ = _; unfold szS; rw [if_neg hneg]
          have HB : Hid (b - (r.length : Int) = left - (rows.length : Int) - (tot (rows.take (k + 1)) : Int) ∧ 0 ≤ b - (r.length : Int)) := by
            show _ ∧ _
            omega
          rw [HS1.out] at HSZ
          clear hu hru hrk ht hle hb0
          generalize b - (r.length : Int) = b2 at *
          go_wp2_with fail
          refine HSZ.out.mono ?_
          rintro e w' ⟨rfl, rfl⟩
          have hb2 : ¬ b2 < 0 := by have := HB.out; omega
          go_wp2_with fail
          go_roundg g2
          case measure => omega
          case rel => exact ⟨k + 1, b2, by omega, by go_num, rfl, HB, rfl⟩
/-- the budget is enough -/
theorem szIntSS_yes (v : Value) (us : List Value) (rows : List (List Int)) (left : Int) (w : World) (h : ReadsG w v us rows) (h0 : 0 ≤ left) (h1 : left ≤ 1048576) (hl : (rows.length : Int) + (tot rows : Int) ≤ left) :
    Calls Try.prog 10 #[v, .int .i64 left] w fun e w' => e = .returned (.int .i64 (left - (rows.length : Int) - (tot rows : Int))) ∧ Below w.heap.size w w' :=
  (szIntSS_any v us rows left w h h0 h1 (by omega) (fun r hr => by
    obtain ⟨k, hk⟩ := List.getElem?_of_mem hr
    have := tot_succ hk
    have := tot_le rows (k + 1)
    omega)).mono fun _ _ ⟨e, hw⟩ => ⟨by rw [e]; unfold szSS szS; rw [if_neg (by omega), if_neg (by omega)], hw ▸ Below.refl _ _⟩
/-- it is not -/
theorem szIntSS_no (v : Value) (us : List Value) (rows : List (List Int)) (left : Int) (w : World) (h : ReadsG w v us rows) (h0 : 0 ≤ left) (h1 : left ≤ 1048576) (hl : (rows.length : Int) ≤ 9223372036854775807) (hr : ∀ r ∈ rows, (r.length : Int) ≤ 9223372036854775807) (hn : left < (rows.length : Int) + (tot rows : Int)) :
    Calls Try.prog 10 #[v, .int .i64 left] w fun e w' => e = .returned (.int .i64 (-1)) ∧ Below w.heap.size w w' :=
  (szIntSS_any v us rows left w h h0 h1 hl hr).mono fun _ _ ⟨e, hw⟩ => ⟨by
    rw [e]; unfold szSS szS
    by_cases h2 : left - (rows.length : Int) < 0
    · rw [if_pos h2]
    · rw [if_neg h2, if_pos (by omega)], hw ▸ Below.refl _ _⟩
/-- a copy in the making -/
def cpR (rows : List (List Int)) (k : Nat) : List (List Int) := rows.take k ++ List.replicate (rows.length - k) []
theorem cpR_len (rows : List (List Int)) {k : Nat} (h : k ≤ rows.length) : (cpR rows k).length = rows.length := by simp [cpR]; omega
theorem cpR_zero (rows : List (List Int)) : cpR rows 0 = List.replicate rows.length [] := by simp [cpR]
theorem cpR_all (rows : List (List Int)) : cpR rows rows.length = rows := by simp [cpR]
theorem cpR_succ {rows : List (List Int)} {k : Nat} {r : List Int} (h : rows[k]? = some r) : (cpR rows k).set k r = cpR rows (k + 1) := by
  have hk := (List.getElem?_eq_some_iff.1 h).1
  unfold cpR
  rw [show rows.length - k = (rows.length - (k + 1)) + 1 from by omega, List.replicate_succ, List.set_append_right _ _ (by rw [List.length_take]; omega), List.take_add_one, h]
  have e : k - (List.take k rows).length = 0 := by simp; omega
  rw [e, List.set_cons_zero, List.append_assoc]
  rfl
set_option maxHeartbeats 2000000 in
set_option maxRecDepth 100000 in
theorem toIntSS_any (v : Value) (us : List Value) (rows : List (List Int)) (w : World) (h : ReadsG w v us rows) (hl : tot rows ≤ 1048576) (hn : rows.length ≤ 1048576) :
    Calls Try.prog 13 #[v] w fun e w' => ∃ A c us', e = .returned (.slice A rows.length c) ∧ OwnG w' w.heap.size (.slice A rows.length c) us' rows ∧ Below w.heap.size w w' := by
  obtain ⟨A, c, rfl, -⟩ := h.1
  obtain ⟨i1, hi1, hy0, hy1, hy2⟩ := info_parts infoRow
  have hmk := fun (W : World) => run_make_rowN (P := Try.prog) 25 37 i1 (.slice none 0 0) Try.underlying25 hi1 hy0 .i64 .i64 rows.length rows.length (Nat.le_refl _) (by rw [hy2]; omega) (by omega) W
  rw [hy1] at hmk
  simp only [Nat.mul_one] at hmk
  have H := Lib.hid h
  have HM := Lib.hid (OwnG.made w rows.length (by unfold maxLen; omega))
  rw [Nat.mul_one, ← cpR_zero] at HM
  have HE := Lib.hid ((Below.refl w.heap.size w).alloc (Nat.le_refl _) (.cells (madeCells #[.slice none 0 0] rows.length) 37))
  clear h
  go_enter Try.func13, Try.ntmps13
  go_wp2_with fail
  clear hmk
  go_loopg [4] rows.length (fun g iv wr => ∃ (k : Nat) (vs : List Value), k + g = rows.length ∧ iv = .int .i64 (k : Int) ∧ OwnG wr w.heap.size (.slice (some ⟨w.heap.size, 0, none⟩) rows.length rows.length) vs (cpR rows k) ∧ Below w.heap.size w wr)
  case atStart => exact ⟨0, _, by omega, rfl, HM.out, HE.out⟩
  case round =>
    clear HM HE
    obtain ⟨k, vs, hkg, rfl, hG, hB⟩ := hrel
    cases gk with
    | zero =>
      obtain rfl : k = rows.length := by omega
      rw [cpR_all] at hG
      have HG := Lib.hid hG
      have HB := Lib.hid hB
      clear hG hB
      go_wp2_with fail
      go_ret
      exact ⟨_, _, _, rfl, HG.out, HB.out⟩
    | succ g2 =>
      have hlt : k < rows.length := by omega
      have hlt' : (k : Int) < (rows.length : Int) := by omega
      obtain ⟨r, hr⟩ : ∃ r, rows[k]? = some r := ⟨_, List.getElem?_eq_getElem hlt⟩
      obtain ⟨u, g, o, hu, rfl, c0, hru⟩ := (H.out.below hB).row hr
      obtain ⟨Ar, cr, rfl, -⟩ := hru.form
      have hrl : r.length ≤ 1048576 := by have := tot_succ hr; have := tot_le rows (k + 1); omega
      have HT := Lib.hid (fun (W : World) (hW : Below wr.heap.size wr W) => toIntS_any (.slice Ar r.length cr) r W (hru.below hW) hrl)
      have HT0 := Lib.hid (HT.out wr (Below.refl _ _))
      have HRS := Lib.hid (cpR_succ hr)
      have HRL := Lib.hid (cpR_len rows (k := k) (by omega))
      have HG := Lib.hid hG
      have HB := Lib.hid hB
      have HC := Lib.hid c0
      clear hu hru hr hrl hG hB
      go_wp2_with fail
      refine HT0.out.mono ?_
      rintro e w4 ⟨A5, c5, rfl, o5, b5⟩
      have hG4 := HG.out.below b5
      have h1 := hG4.1
      rw [HRL.out] at h1
      have hul := hG4.len
      rw [HRL.out] at hul
      obtain ⟨u0, hu0⟩ : ∃ u, vs[k]? = some u := ⟨_, List.getElem?_eq_getElem (by omega)⟩
      have f0 := h1.cellAt k (by omega)
      rw [hu0] at f0
      have z0 := h1.frozenAt k
      have hgr := h1.lt w.heap.size rfl
      have HS : Hid (OwnG (w4.setCell ⟨w.heap.size, k, none⟩ (.slice A5 r.length c5)) w.heap.size (.slice (some ⟨w.heap.size, 0, none⟩) rows.length rows.length) (vs.set k (.slice A5 r.length c5)) (cpR rows (k + 1))) := by
        have h9 : OwnG w4 w.heap.size (.slice (some ⟨w.heap.size, 0, none⟩) (cpR rows k).length rows.length) vs (cpR rows k) := by rw [HRL.out]; exact hG4
        have hfr := OwnG.fresh HG.out (own_base o5 (Nat.le_refl _))
        have := OwnG.store h9 (by rw [HRL.out]; exact hlt) (own_base o5 (by have := HB.out.size; omega)) (fun i x b _ hx hb => hfr i x b hx hb)
        rw [HRS.out, HRL.out] at this
        exact this
      have HB5 := Lib.hid ((btrans HB.out b5).setCell (p := ⟨w.heap.size, k, none⟩) hgr.1 (.slice A5 r.length c5))
      clear hG4 h1 hul b5 o5 hu0 c0
      go_wp2_with fail
      go_roundg g2
      case measure => omega
      case rel => exact ⟨k + 1, _, by omega, by go_num, HS.out, HB5.out⟩
end Go.Proofs.Ytdhbaegkogklgaa.gridl

/- Arguments of the laws, opened: a Graph as it came in, a slice of integers as it came in. -/
namespace Go.Proofs.Ytdhbaegkogklgaa.opens
open Go.RowKit Go.Joins Go.ChangeShapes Go.WideShapes Go.Deep P2 words

theorem addr_add (g o j : Nat) : (⟨g, o, none⟩ : Addr).add j = ⟨g, o + j, none⟩ := by unfold Addr.add; split <;> simp_all
theorem add_of_add (a : Addr) (i j : Nat) : (a.add i).add j = a.add (i + j) := by
  unfold Addr.add
  by_cases hi : i = 0 <;> by_cases hj : j = 0 <;> simp [hi, hj, Nat.add_assoc]

/-- what is told of a Graph that came in -/
def IsGr (w : World) (s : Int) (v : Value) (l : List Ed) : Prop :=
  Edges w v l ∧ l.length ≤ maxLen ∧ -9223372036854775808 ≤ s ∧ s ≤ 9223372036854775807

theorem bounds64 {n : Int} (h : (Lit.int .i64 n).wf = true) : -9223372036854775808 ≤ n ∧ n ≤ 9223372036854775807 := by
  simp [Lit.wf, IntKind.min, IntKind.max, IntKind.signed, IntKind.bits] at h
  omega

/-- what is told of a slice of integers that came in -/
def IsIn (w : World) (v : Value) (l : List Int) : Prop := Ints w v l ∧ l.length ≤ maxLen ∧ ∀ x ∈ l, -9223372036854775808 ≤ x ∧ x ≤ 9223372036854775807

section
variable {H : Type} {enc : TypeId × Value → H} {w : World} {spare : Nat → Bool} {held : Bool}
theorem open_edges {fuel : Nat} {v : Value} {x : DataW H × List MemPlace} (h : DataW.trod enc Try.prog w 0 spare held fuel 22 [v] = some x) :
    ∃ l : List Ed, Edges w v l ∧ l.length ≤ maxLen := by
  rcases open_slice Try.underlying22 h with ⟨hv, _⟩ | ⟨a, len, cap, m, n, D, Pl, hv, _, hl, hm, hmm, _, hi⟩
  · obtain rfl : v = .slice none 0 0 := by simpa using hv
    exact ⟨[], Reads.nil _ _, Nat.zero_le _⟩
  · obtain rfl : v = .slice (some a) len cap := by simpa using hv
    have hlm : len ≤ m := by rw [hmm]; split <;> omega
    have hC : Try.prog.cellsOf 87 = 2 := by kernel_rfl
    have hC1 : Try.prog.cellsOf 3 = 1 := by kernel_rfl
    rw [hC] at hi
    have key : ∀ i, i < len → ∃ e : Ed, w.cell? (a.add (i * 2)) = some (.int .i64 e.1) ∧ w.cell? (a.add (i * 2 + 1)) = some (.int .i64 e.2) := fun i hil => by
      obtain ⟨cs', hc, ht⟩ := hi i (by omega)
      obtain ⟨xs, m', _, _, _, hxl, he⟩ := DataW.trod_array Try.underlying87 ht
      obtain ⟨_, hcl, hat⟩ := World.cells?_some hc
      rw [hC1] at he
      match cs', hcl with
      | [c0, c1], _ =>
        match xs, hxl with
        | [y0, y1], _ =>
          have e0 : DataW.trod enc Try.prog w 0 spare held m' 3 [c0] = some y0 := he 0 (by decide)
          have e1 : DataW.trod enc Try.prog w 0 spare held m' 3 [c1] = some y1 := he 1 (by decide)
          obtain ⟨n0, h0, _, _⟩ := DataW.trod_int Try.underlying3 e0
          obtain ⟨n1, h1, _, _⟩ := DataW.trod_int Try.underlying3 e1
          obtain rfl : c0 = .int .i64 n0 := by simpa using h0
          obtain rfl : c1 = .int .i64 n1 := by simpa using h1
          have a0 := hat 0 (by decide)
          have a1 := hat 1 (by decide)
          rw [add_of_add] at a0 a1
          exact ⟨(n0, n1), by simpa using a0, by simpa using a1⟩
    obtain ⟨f, hf⟩ := choose_lt (α := Ed) key
    refine ⟨(List.range len).map f, ⟨some a, cap, by simp, fun hn => ?_⟩, by simp; omega⟩
    simp only [List.length_map, List.length_range] at hn ⊢
    obtain ⟨b, off, spot⟩ := a
    have hc0 := (hf 0 hn).1
    have hspot : spot = none := by simpa [Addr.add] using World.cell?_spot hc0
    subst hspot
    refine ⟨b, off, rfl, hl, fun j u hu => ?_⟩
    have hjl : j < len * 2 := by
      have := (List.getElem?_eq_some_iff.1 hu).1
      rw [cellsE_len] at this; simpa using this
    obtain ⟨k, hk⟩ : ∃ k, k = j / 2 := ⟨_, rfl⟩
    have hkl : k < len := by omega
    have hkf : ((List.range len).map f)[k]? = some (f k) := by simp [hkl]
    have hck := cellsE_at hkf
    have hcl := hf k hkl
    rw [addr_add, addr_add] at hcl
    rcases Nat.mod_two_eq_zero_or_one j with h0 | h0
    · obtain rfl : j = k * 2 := by omega
      rw [hck.1] at hu
      rw [hcl.1, ← hu]
    · obtain rfl : j = k * 2 + 1 := by omega
      rw [hck.2] at hu
      rw [hcl.2, ← hu]

set_option maxRecDepth 100000 in
theorem open_graph {r : Reach} {b0 : Nat} {v : Value} {d : DataW H} {p : List MemPlace} (hv : Value.okWide Try.prog w r b0 24 v)
    (h : DataW.Trod enc Try.prog w 0 spare held 24 v d p) : ∃ s u l, v = .agg #[.int .i64 s, u] ∧ IsGr w s u l := by
  obtain ⟨c0, c1, y0, y1, m, rfl, _, _, h0, h1⟩ := open_agg2 Try.underlying24 (by kernel_rfl) (by kernel_rfl) hv h
  obtain ⟨n0, k0, _, w0⟩ := DataW.trod_int Try.underlying3 h0
  obtain rfl : c0 = .int .i64 n0 := by simpa using k0
  obtain ⟨l, he, hl⟩ := open_edges h1
  exact ⟨n0, c1, l, rfl, he, hl, bounds64 w0⟩

set_option maxRecDepth 100000 in
theorem open_intsl {r : Reach} {b0 : Nat} {v : Value} {d : DataW H} {p : List MemPlace} (hv : Value.okWide Try.prog w r b0 37 v)
    (h : DataW.Trod enc Try.prog w 0 spare held 37 v d p) : ∃ u l, v = u ∧ IsIn w u l := by
  obtain ⟨A, len, cap, rfl⟩ := okWide_slice Try.underlying37 hv
  obtain ⟨fuel, hf⟩ := h
  simp only [Value.cells] at hf
  rcases open_slice Try.underlying37 hf with ⟨hv, _⟩ | ⟨a, len', cap', m, n, D, Pl, hv, _, hl, hm, hmm, _, hi⟩
  · have e : Value.slice A len cap = .slice none 0 0 := by simpa using hv
    rw [e]
    exact ⟨_, [], rfl, Reads.nil _ _, Nat.zero_le _, fun x hx => by cases hx⟩
  · have e : Value.slice A len cap = .slice (some a) len' cap' := by simpa using hv
    rw [e]
    have hlm : len' ≤ m := by rw [hmm]; split <;> omega
    have hC1 : Try.prog.cellsOf 3 = 1 := by kernel_rfl
    rw [hC1] at hi
    have key : ∀ i, i < len' → ∃ x : Int, w.cell? (a.add i) = some (.int .i64 x) ∧ (Lit.int .i64 x).wf = true := fun i hil => by
      obtain ⟨cs', hc, ht⟩ := hi i (by omega)
      obtain ⟨_, hcl, hat⟩ := World.cells?_some hc
      match cs', hcl with
      | [c0], _ =>
        obtain ⟨n0, h0, _, hw⟩ := DataW.trod_int Try.underlying3 ht
        obtain rfl : c0 = .int .i64 n0 := by simpa using h0
        have a0 := hat 0 (by decide)
        rw [add_of_add, Nat.mul_one] at a0
        exact ⟨n0, by simpa using a0, hw⟩
    obtain ⟨f, hf⟩ := choose_lt (α := Int) key
    refine ⟨_, (List.range len').map f, rfl, ⟨some a, cap', by simp, fun hn => ?_⟩, by simp; omega, fun x hx => ?_⟩
    · simp only [List.length_map, List.length_range] at hn ⊢
      obtain ⟨b, off, spot⟩ := a
      have hc0 := (hf 0 hn).1
      have hspot : spot = none := by simpa [Addr.add] using World.cell?_spot hc0
      subst hspot
      refine ⟨b, off, rfl, hl, fun j u hu => ?_⟩
      have hjl : j < len' := by
        have := (List.getElem?_eq_some_iff.1 hu).1
        rw [cellsI_len] at this; simpa using this
      have hcl := (hf j hjl).1
      rw [addr_add] at hcl
      have hkf : ((List.range len').map f)[j]? = some (f j) := by simp [hjl]
      rw [cellsI_at hkf] at hu
      rw [hcl, ← hu]
    · simp only [List.mem_map, List.mem_range] at hx
      obtain ⟨j, hj, rfl⟩ := hx
      exact bounds64 (hf j hj).2
end
end Go.Proofs.Ytdhbaegkogklgaa.opens

/- An argument of type [][]int, opened: rows of integers as they came in. -/
namespace Go.Proofs.Ytdhbaegkogklgaa.opens
open Go.RowKit Go.Joins Go.ChangeShapes Go.WideShapes Go.Deep P2 words gridr

/-- what is told of a slice of slices of integers that came in -/
def IsRows (w : World) (v : Value) (us : List Value) (rows : List (List Int)) : Prop :=
  ReadsG w v us rows ∧ rows.length ≤ maxLen ∧ ∀ r ∈ rows, r.length ≤ maxLen ∧ ∀ x ∈ r, -9223372036854775808 ≤ x ∧ x ≤ 9223372036854775807

section
variable {H : Type} {enc : TypeId × Value → H} {w : World} {spare : Nat → Bool} {held : Bool}
theorem open_intsv {fuel : Nat} {v : Value} {x : DataW H × List MemPlace} (h : DataW.trod enc Try.prog w 0 spare held fuel 37 [v] = some x) : ∃ l, IsIn w v l := by
  rcases open_slice Try.underlying37 h with ⟨hv, _⟩ | ⟨a, len', cap', m, n, D, Pl, hv, _, hl, hm, hmm, _, hi⟩
  · obtain rfl : v = .slice none 0 0 := by simpa using hv
    exact ⟨[], Reads.nil _ _, Nat.zero_le _, fun x hx => by cases hx⟩
  · obtain rfl : v = .slice (some a) len' cap' := by simpa using hv
    have hlm : len' ≤ m := by rw [hmm]; split <;> omega
    have hC1 : Try.prog.cellsOf 3 = 1 := by kernel_rfl
    rw [hC1] at hi
    have key : ∀ i, i < len' → ∃ x : Int, w.cell? (a.add i) = some (.int .i64 x) ∧ (Lit.int .i64 x).wf = true := fun i hil => by
      obtain ⟨cs', hc, ht⟩ := hi i (by omega)
      obtain ⟨_, hcl, hat⟩ := World.cells?_some hc
      match cs', hcl with
      | [c0], _ =>
        obtain ⟨n0, h0, _, hw⟩ := DataW.trod_int Try.underlying3 ht
        obtain rfl : c0 = .int .i64 n0 := by simpa using h0
        have a0 := hat 0 (by decide)
        rw [add_of_add, Nat.mul_one] at a0
        exact ⟨n0, by simpa using a0, hw⟩
    obtain ⟨f, hf⟩ := choose_lt (α := Int) key
    refine ⟨(List.range len').map f, ⟨some a, cap', by simp, fun hn => ?_⟩, by simp; omega, fun x hx => ?_⟩
    · simp only [List.length_map, List.length_range] at hn ⊢
      obtain ⟨b, off, spot⟩ := a
      have hc0 := (hf 0 hn).1
      have hspot : spot = none := by simpa [Addr.add] using World.cell?_spot hc0
      subst hspot
      refine ⟨b, off, rfl, hl, fun j u hu => ?_⟩
      have hjl : j < len' := by
        have := (List.getElem?_eq_some_iff.1 hu).1
        rw [cellsI_len] at this; simpa using this
      have hcl := (hf j hjl).1
      rw [addr_add] at hcl
      have hkf : ((List.range len').map f)[j]? = some (f j) := by simp [hjl]
      rw [cellsI_at hkf] at hu
      rw [hcl, ← hu]
    · simp only [List.mem_map, List.mem_range] at hx
      obtain ⟨j, hj, rfl⟩ := hx
      exact bounds64 (hf j hj).2

set_option maxRecDepth 100000 in
theorem open_rowsl {r : Reach} {b0 : Nat} {v : Value} {d : DataW H} {p : List MemPlace} (hv : Value.okWide Try.prog w r b0 25 v)
    (h : DataW.Trod enc Try.prog w 0 spare held 25 v d p) : ∃ u us rows, v = u ∧ IsRows w u us rows := by
  obtain ⟨A, len, cap, rfl⟩ := okWide_slice Try.underlying25 hv
  obtain ⟨fuel, hf⟩ := h
  simp only [Value.cells] at hf
  rcases open_slice Try.underlying25 hf with ⟨hv, _⟩ | ⟨a, len', cap', m, n, D, Pl, hv, _, hl, hm, hmm, _, hi⟩
  · have e : Value.slice A len cap = .slice none 0 0 := by simpa using hv
    rw [e]
    exact ⟨_, [], [], rfl, ⟨Reads.nil _ _, rfl, fun i u r hu hr => by simp at hu⟩, Nat.zero_le _, fun x hx => by cases hx⟩
  · have e : Value.slice A len cap = .slice (some a) len' cap' := by simpa using hv
    rw [e]
    have hlm : len' ≤ m := by rw [hmm]; split <;> omega
    have hC1 : Try.prog.cellsOf 37 = 1 := by kernel_rfl
    rw [hC1] at hi
    have key : ∀ i, i < len' → ∃ y : Value × List Int, w.cell? (a.add i) = some y.1 ∧ IsIn w y.1 y.2 := fun i hil => by
      obtain ⟨cs', hc, ht⟩ := hi i (by omega)
      obtain ⟨_, hcl, hat⟩ := World.cells?_some hc
      match cs', hcl with
      | [c0], _ =>
        obtain ⟨l, hl2⟩ := open_intsv ht
        have a0 := hat 0 (by decide)
        rw [add_of_add, Nat.mul_one] at a0
        exact ⟨(c0, l), by simpa using a0, hl2⟩
    obtain ⟨f, hf⟩ := choose_lt (α := Value × List Int) key
    refine ⟨_, (List.range len').map (fun i => (f i).1), (List.range len').map (fun i => (f i).2), rfl, ⟨⟨some a, cap', by simp, fun hn => ?_⟩, by simp, fun i u r hu hr => ?_⟩, by simp; omega, fun x hx => ?_⟩
    · simp only [List.length_map, List.length_range] at hn ⊢
      obtain ⟨b, off, spot⟩ := a
      have hc0 := (hf 0 hn).1
      have hspot : spot = none := by simpa [Addr.add] using World.cell?_spot hc0
      subst hspot
      refine ⟨b, off, rfl, hl, fun j u hu => ?_⟩
      have hjl : j < len' := by
        have := (List.getElem?_eq_some_iff.1 hu).1
        simpa using this
      have hcl := (hf j hjl).1
      rw [addr_add] at hcl
      have hkf : ((List.range len').map (fun i => (f i).1))[j]? = some (f j).1 := by simp [hjl]
      rw [hkf] at hu
      rw [hcl, ← hu]
    · have hil : i < len' := by
        have := (List.getElem?_eq_some_iff.1 hu).1
        simpa using this
      have h1 : ((List.range len').map (fun i => (f i).1))[i]? = some (f i).1 := by simp [hil]
      have h2 : ((List.range len').map (fun i => (f i).2))[i]? = some (f i).2 := by simp [hil]
      rw [h1] at hu
      rw [h2] at hr
      cases hu
      cases hr
      exact (hf i hil).2.1
    · simp only [List.mem_map, List.mem_range] at hx
      obtain ⟨j, hj, rfl⟩ := hx
      exact (hf j hj).2.2
end
end Go.Proofs.Ytdhbaegkogklgaa.opens
