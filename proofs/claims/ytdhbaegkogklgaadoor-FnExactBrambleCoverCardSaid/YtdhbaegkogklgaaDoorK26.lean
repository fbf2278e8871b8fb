/- Guards: the contract of the model's BestAnswer. -/
import Derived.Handy
import Derived.Test.YtdhbaegkogklgaaDoorK24
import Derived.Test.YtdhbaegkogklgaaDoorK25
import Derived.Deep.DeepCutAuto
import Derived.Deep.RegionHeld3
import Derived.Deep.QuietTactic
import Derived.Test.YtdhbaegkogklgaaDoorK16
import Derived.Test.YtdhbaegkogklgaaDoorRows
import Derived.Lib.LaidTab
import Derived.Stop.LaidErr
import Derived.Shelf.Vars
import Derived.Test.YtdhbaegkogklgaaDoorProg
import Derived.Test.YtdhbaegkogklgaaDoorK01
import Derived.Deep.Slices
import Derived.Lib.SmallJoins
import Derived.OpenShut
namespace Go.Proofs.YtdhbaegkogklgaaDoor.ups
open Go.RowKit P2 words edges ints owns good adjs fns sets rets covs bags balls bitsI func lists times apps gridr grid trip minmax
set_option linter.unusedVariables false

set_option maxHeartbeats 8000000 in
set_option maxRecDepth 100000 in
theorem specBan_any (s x : Int) (all : Bool) (v u : Value) (l : List Ed) (xs : List Int) (w : World) (h : Edges w v l) (hl : l.length ≤ 1048576) (hu : Ints w u xs) (hxl : xs.length ≤ 1048576) (hs1 : -9223372036854775808 ≤ s) (hs2 : s ≤ 9223372036854775807) :
    Calls Tryd.prog 16 #[.agg #[.int .i64 s, v], u, .int .i64 x, .bool all] w (RetI w (BanOk s l all xs x) (banL s l all xs x)) := by
  obtain ⟨A, c, rfl, -⟩ := h.form
  obtain ⟨A2, c2, rfl, -⟩ := hu.form
  have H := Lib.hid h
  have HU := Lib.hid hu
  have b0 : Below w.heap.size w (w.alloc (.cells #[.int .i64 s, .slice A l.length c] 29)) := (Below.refl _ _).alloc (Nat.le_refl _) _
  have g0 := Blk.new w 29 #[.int .i64 s, .slice A l.length c]
  obtain ⟨p0, p1, -, -⟩ := g0.two
  have HGD := Lib.hid (l2Good_any s _ l _ (h.below b0) hl hs1 hs2)
  have HB0 := Lib.hid b0
  have HG0 := Lib.hid g0
  clear h hu b0 g0
  by_cases hgd : P2.Good s l
  · rw [goodB_yes hgd] at HGD
    have h0 := hgd.1
    have h8 := hgd.2.1
    obtain ⟨n, rfl⟩ : ∃ n : Nat, s = (n : Int) := ⟨s.toNat, by omega⟩
    have hn : n ≤ 8 := by omega
    have HST := Lib.hid (fun (W : World) (hW : Below w.heap.size w W) => l2Set_any (n : Int) (.slice A l.length c) (.slice A2 xs.length c2) l xs W (HU.out.below hW) hxl h0 h8)
    have HND := Lib.hid (fun (W : World) (hW : Below w.heap.size w W) => l2Node_any (n : Int) x (.slice A l.length c) l W (H.out.below hW) h0 h8)
    have HHS := Lib.hid (fun (W : World) (hW : Below w.heap.size w W) => l1Has_any (.slice A2 xs.length c2) xs x W (HU.out.below hW) hxl)
    by_cases hso : SetOk (n : Int) l xs
    · rw [okG_yes ((rises_set hgd).2 hso)] at HST
      by_cases hx : 0 ≤ x ∧ x < (n : Int)
      · rw [nodeG_yes hx] at HND
        by_cases hin : x ∈ xs
        · rw [decide_eq_true hin] at HHS
          have HNO : Hid (¬ BanOk (n : Int) l all xs x) := fun h => h.1.2.2 hin
          clear hgd hso hx hin
          go_enter Tryd.func16, Tryd.ntmps16
          go_wp2_with fail
          refine (HGD.out).mono ?_
          rintro e w1 ⟨rfl, b1⟩
          have HE1 := Lib.hid (btrans HB0.out b1)
          have HG1 := Lib.hid (HG0.out.below b1 HG0.out.lt)
          clear p0 p1 b1
          obtain ⟨p0, p1, -, -⟩ := HG1.out.two
          go_wp2_with fail
          refine (HST.out w1 HE1.out).mono ?_
          rintro e w2 ⟨rfl, b2⟩
          have HE2 := Lib.hid (btrans HE1.out b2)
          have HG2 := Lib.hid (HG1.out.below b2 HG1.out.lt)
          clear p0 p1 b2
          obtain ⟨p0, p1, -, -⟩ := HG2.out.two
          go_wp2_with fail
          refine (HND.out w2 HE2.out).mono ?_
          rintro e w3 ⟨rfl, b3⟩
          have HE3 := Lib.hid (btrans HE2.out b3)
          have HG3 := Lib.hid (HG2.out.below b3 HG2.out.lt)
          clear p0 p1 b3
          obtain ⟨p0, p1, -, -⟩ := HG3.out.two
          go_wp2_with fail
          refine (HHS.out w3 HE3.out).mono ?_
          rintro e w' ⟨rfl, rfl⟩
          clear p0 p1
          go_wp2_with fail
          go_ret2
          exact RetI.no HNO.out (own_base (own_new0 w3 3 1) HE3.out.size) (HE3.out.alloc HE3.out.size _)
        · rw [decide_eq_false hin] at HHS
          have hok : AtOk (n : Int) l xs x := ⟨hso, hx, hin⟩
          have HOK := Lib.hid hok
          obtain ⟨y, rfl⟩ : ∃ y : Nat, x = (y : Int) := ⟨x.toNat, by omega⟩
          have hyn : y < n := by omega
          have hk8 : xs.length ≤ 8 := Nat.le_trans (asc_len hso.2.2 hso.2.1) hn
          have hxa := set_nd hn hso
          have HV1 : Hid (BanOk (n : Int) l all xs (y : Int) ↔ (ansF l all (setsK n xs.length) y (codeL xs)).length ≠ 0) := by
            show _ ↔ _
            unfold BanOk
            rw [Int.toNat_natCast, Int.toNat_natCast]
            exact ⟨fun h => h.2, fun h => ⟨hok, h⟩⟩
          have HV2 : Hid (banL (n : Int) l all xs (y : Int) = ndN (banV n l all (setsK n xs.length) y (codeL xs))) := by show _ = _; unfold banL; rw [Int.toNat_natCast, Int.toNat_natCast]
          obtain ⟨m, hm, hfst⟩ := place_of hn hk8 (code_set hso) (set_onesM hn hso)
          have hbit : (codeL xs).testBit y = false := by
            have h_ := has_nd (x := y) (Nat.lt_of_lt_of_le (code_set hso) (pow_le hn))
            rw [← h_, ← hxa]
            exact decide_eq_false hin
          have HSE := Lib.hid (fun (W : World) => l10Sets_any n xs.length (.slice A l.length c) W hn hk8)
          have hsl := setsK_len hn hk8
          have HM2 : Hid (∀ c ∈ setsK n xs.length, c < 2 ^ n ∧ onesN c = xs.length) := fun c hc => (setsK_mem hn hk8).1 hc
          have HTB := Lib.hid (fun (t : Value) (us : List Value) (W : World) (hW : Below w.heap.size w W) (ht : ReadsG W t us (rowN (setsK n xs.length))) => l10Table_any n xs.length all (.slice A l.length c) t us (setsK n xs.length) l W (H.out.below hW) hl ht HM2.out hsl hgd hn)
          have HRS := Lib.hid (fun (t v : Value) (us vs : List Value) (W : World) (ht : ReadsG W t us (rowN (setsK n xs.length))) (hv : ReadsGG W v vs (tblL n l all (setsK n xs.length))) => l10Resist_any n xs.length all v t us vs (setsK n xs.length) l W ht hv HM2.out hsl hn)
          have HAT := Lib.hid (fun (t : Value) (us : List Value) (W : World) (hW : Below w.heap.size w W) (ht : ReadsG W t us (rowN (setsK n xs.length))) => l4AtI_any t (.slice A2 xs.length c2) us (rowN (setsK n xs.length)) xs m W ht (HU.out.below hW) (by have h_ := rowN_at hm; rw [← hxa] at h_; exact h_) (fun j z hj hz => by have h_ := hfst j z hj hz; rw [← hxa] at h_; exact h_) (fun r hr => by obtain ⟨z, _, rfl⟩ := List.mem_map.1 hr; have := nw_len (bitB z) 8; unfold ndN; omega) (by rw [rowN_len]; omega))
          have HBE := Lib.hid (fun (t v : Value) (vs : List Value) (W : World) (hv : ReadsGG W v vs (tblL n l all (setsK n xs.length))) (ht : Ints W t ((setsK n xs.length).map (resV n l all (setsK n xs.length)))) => l10Best_any n m y (codeL xs) all v t vs (setsK n xs.length) l W hv ht hsl hm hyn hn hbit (once_sets hn hk8))
          have HBI : Hid ((ansF l all (setsK n xs.length) y (codeL xs)).length ≠ 0 → ∃ i : Nat, banI n l all (setsK n xs.length) y (codeL xs) = (i : Int) ∧ (setsK n xs.length)[i]? = some (banV n l all (setsK n xs.length) y (codeL xs))) := fun h => by
            have hmem := (ansF_mem (banV_mem (n := n) (l := l) (all := all) (L := setsK n xs.length) (x := y) (a := codeL xs) (fun e => h (by rw [e]; rfl)))).1
            obtain ⟨i, hi⟩ := List.getElem?_of_mem hmem
            exact ⟨i, by unfold banI; rw [if_neg h, (once_sets hn hk8).idx hi], hi⟩
          have HBN : Hid ((ansF l all (setsK n xs.length) y (codeL xs)).length = 0 → banI n l all (setsK n xs.length) y (codeL xs) = -1) := fun h => by unfold banI; rw [if_pos h]
          have HNL : Hid (∀ c, (ndN c).length ≤ 8) := fun c => nw_len _ _
          have HRT := Lib.hid (rowN_len (setsK n xs.length))
          clear hgd hso hx hin hok hm hfst hxa hbit
          generalize banV n l all (setsK n xs.length) y (codeL xs) = bv at *
          generalize hBI : banI n l all (setsK n xs.length) y (codeL xs) = bi at *
          generalize ansF l all (setsK n xs.length) y (codeL xs) = F at *
          generalize tblL n l all (setsK n xs.length) = TB at *
          generalize (setsK n xs.length).map (resV n l all (setsK n xs.length)) = T at *
          generalize setsK n xs.length = LK at *
          clear hBI
          go_enter Tryd.func16, Tryd.ntmps16
          go_wp2_with fail
          refine (HGD.out).mono ?_
          rintro e w1 ⟨rfl, b1⟩
          have HE1 := Lib.hid (btrans HB0.out b1)
          have HG1 := Lib.hid (HG0.out.below b1 HG0.out.lt)
          clear p0 p1 b1
          obtain ⟨p0, p1, -, -⟩ := HG1.out.two
          go_wp2_with fail
          refine (HST.out w1 HE1.out).mono ?_
          rintro e w2 ⟨rfl, b2⟩
          have HE2 := Lib.hid (btrans HE1.out b2)
          have HG2 := Lib.hid (HG1.out.below b2 HG1.out.lt)
          clear p0 p1 b2
          obtain ⟨p0, p1, -, -⟩ := HG2.out.two
          go_wp2_with fail
          refine (HND.out w2 HE2.out).mono ?_
          rintro e w3 ⟨rfl, b3⟩
          have HE3 := Lib.hid (btrans HE2.out b3)
          have HG3 := Lib.hid (HG2.out.below b3 HG2.out.lt)
          clear p0 p1 b3
          obtain ⟨p0, p1, -, -⟩ := HG3.out.two
          go_wp2_with fail
          refine (HHS.out w3 HE3.out).mono ?_
          rintro e w' ⟨rfl, rfl⟩
          go_wp2_with fail
          refine (HSE.out w3).mono ?_
          rintro e w4 ⟨A5, c5, us5, rfl, o5, b4⟩
          have HE4 := Lib.hid (btrans HE3.out b4)
          have HG4 := Lib.hid (HG3.out.below b4 HG3.out.lt)
          have HS4 := Lib.hid (gridl.readsG_of_own o5)
          clear p0 p1 b4 o5
          obtain ⟨p0, p1, -, -⟩ := HG4.out.two
          go_wp2_with fail
          refine (HTB.out _ us5 w4 HE4.out HS4.out).mono ?_
          rintro e w5 ⟨A6, c6, us6, rfl, o6, b5⟩
          have HE5 := Lib.hid (btrans HE4.out b5)
          have HS5 := Lib.hid (HS4.out.below b5)
          have HT5 := Lib.hid o6.reads
          clear p0 p1 b5 o6
          go_wp2_with fail
          refine (HRS.out _ _ us5 us6 w5 HS5.out HT5.out).mono ?_
          rintro e w6 ⟨A7, c7, rfl, o7, b6⟩
          have HE6 := Lib.hid (btrans HE5.out b6)
          have HS6 := Lib.hid (HS5.out.below b6)
          have HT6 := Lib.hid (HT5.out.below b6)
          have HR6 : Hid (Ints w6 (.slice A7 T.length c7) T) := Reads.of_own o7
          clear b6 o7
          go_wp2_with fail
          refine (HAT.out _ us5 w6 HE6.out HS6.out).mono ?_
          rintro e w7 ⟨rfl, b7⟩
          have HE7 := Lib.hid (btrans HE6.out b7)
          have HS7 := Lib.hid (HS6.out.below b7)
          have HT7 := Lib.hid (HT6.out.below b7)
          have HR7 := Lib.hid (HR6.out.below b7)
          clear b7
          go_wp2_with fail
          refine (HBE.out _ _ us6 w7 HT7.out HR7.out).mono ?_
          rintro e w8 ⟨rfl, b8⟩
          have HE8 := Lib.hid (btrans HE7.out b8)
          have HS8 := Lib.hid (HS7.out.below b8)
          clear b8
          by_cases hF : F.length = 0
          · obtain rfl := HBN.out hF
            have HNO : Hid (¬ BanOk (n : Int) l all xs (y : Int)) := fun h => (HV1.out.1 h) hF
            clear hF
            go_wp2_with fail
            go_ret2
            exact RetI.no HNO.out (own_base (own_new0 w8 3 1) HE8.out.size) (HE8.out.alloc HE8.out.size _)
          · obtain ⟨i, rfl, hi⟩ := HBI.out hF
            have HY := Lib.hid (HV1.out.2 hF)
            have hiL := (List.getElem?_eq_some_iff.1 hi).1
            have hiL' : (i : Int) < ((rowN LK).length : Int) := by rw [HRT.out]; omega
            obtain ⟨ub, g5, o5, hu, hA5, cs, hru⟩ := HS8.out.row (rowN_at hi)
            subst hA5
            obtain ⟨Ar, cr, rfl, -⟩ := hru.form
            have how := times.l1Own_any (.slice Ar (ndN bv).length cr) (ndN bv) w8 hru (by have := HNL.out bv; omega)
            have HOW := Lib.hid how
            clear hF hi hu hru how
            go_wp2_with fail
            refine HOW.out.mono ?_
            rintro e w9 ⟨A9, c9, rfl, o9, b9⟩
            have o10 := own_base (B' := w.heap.size) o9 HE8.out.size
            have e10 := btrans HE8.out b9
            clear o9 b9 cs
            go_wp2_with fail
            go_ret2
            rw [HV2.out]
            exact RetI.yes HY.out o10 e10
      · rw [nodeG_no hx] at HND
        have HNO : Hid (¬ BanOk (n : Int) l all xs x) := fun h => hx h.1.2.1
        clear hgd hso hx
        go_enter Tryd.func16, Tryd.ntmps16
        go_wp2_with fail
        refine (HGD.out).mono ?_
        rintro e w1 ⟨rfl, b1⟩
        have HE1 := Lib.hid (btrans HB0.out b1)
        have HG1 := Lib.hid (HG0.out.below b1 HG0.out.lt)
        clear p0 p1 b1
        obtain ⟨p0, p1, -, -⟩ := HG1.out.two
        go_wp2_with fail
        refine (HST.out w1 HE1.out).mono ?_
        rintro e w2 ⟨rfl, b2⟩
        have HE2 := Lib.hid (btrans HE1.out b2)
        have HG2 := Lib.hid (HG1.out.below b2 HG1.out.lt)
        clear p0 p1 b2
        obtain ⟨p0, p1, -, -⟩ := HG2.out.two
        go_wp2_with fail
        refine (HND.out w2 HE2.out).mono ?_
        rintro e w3 ⟨rfl, b3⟩
        have HE3 := Lib.hid (btrans HE2.out b3)
        have HG3 := Lib.hid (HG2.out.below b3 HG2.out.lt)
        clear p0 p1 b3
        go_wp2_with fail
        go_ret2
        exact RetI.no HNO.out (own_base (own_new0 w3 3 1) HE3.out.size) (HE3.out.alloc HE3.out.size _)
    · rw [okG_no (fun h => hso ((rises_set hgd).1 h))] at HST
      have HNO : Hid (¬ BanOk (n : Int) l all xs x) := fun h => hso h.1.1
      clear hgd hso
      go_enter Tryd.func16, Tryd.ntmps16
      go_wp2_with fail
      refine (HGD.out).mono ?_
      rintro e w1 ⟨rfl, b1⟩
      have HE1 := Lib.hid (btrans HB0.out b1)
      have HG1 := Lib.hid (HG0.out.below b1 HG0.out.lt)
      clear p0 p1 b1
      obtain ⟨p0, p1, -, -⟩ := HG1.out.two
      go_wp2_with fail
      refine (HST.out w1 HE1.out).mono ?_
      rintro e w2 ⟨rfl, b2⟩
      have HE2 := Lib.hid (btrans HE1.out b2)
      have HG2 := Lib.hid (HG1.out.below b2 HG1.out.lt)
      clear p0 p1 b2
      go_wp2_with fail
      go_ret2
      exact RetI.no HNO.out (own_base (own_new0 w2 3 1) HE2.out.size) (HE2.out.alloc HE2.out.size _)
  · rw [goodB_no hgd] at HGD
    have HNO : Hid (¬ BanOk s l all xs x) := fun h => hgd h.1.1.1
    clear hgd
    go_enter Tryd.func16, Tryd.ntmps16
    go_wp2_with fail
    refine (HGD.out).mono ?_
    rintro e w1 ⟨rfl, b1⟩
    have HE1 := Lib.hid (btrans HB0.out b1)
    have HG1 := Lib.hid (HG0.out.below b1 HG0.out.lt)
    clear p0 p1 b1
    go_wp2_with fail
    go_ret2
    exact RetI.no HNO.out (own_base (own_new0 w1 3 1) HE1.out.size) (HE1.out.alloc HE1.out.size _)
theorem ban_len (s x : Int) (l : List Ed) (all : Bool) (xs : List Int) : (inG (BanOk s l all xs x) (banL s l all xs x)).length ≤ 1048576 := by
  by_cases h : BanOk s l all xs x
  · rw [inG_yes h]
    have : (banL s l all xs x).length ≤ 8 := nw_len _ _
    omega
  · rw [inG_no h]; exact Nat.zero_le _
end Go.Proofs.YtdhbaegkogklgaaDoor.ups

/- What the row's list says of the table of math/bits. -/
namespace Go.Proofs.YtdhbaegkogklgaaDoor.least
open Go.RowKit

theorem gTab : Tryd.prog.globalNamed "math/bits.deBruijn64tab" = some 1 := by kernel_rfl
theorem gTabType : (Tryd.prog.globals[1]?).map (·.type) = some 155 := by kernel_rfl
theorem cellsTab : Tryd.prog.cellsOf 155 = 64 := by kernel_rfl
theorem cellsU8 : Tryd.prog.cellsOf 5 = 1 := by kernel_rfl
theorem env_of {W : World} {x : String × DataW Unit} {r : List (String × DataW Unit)} (h : laidMet Tryd.prog (x :: ("math/bits.deBruijn64tab", Rows.laid_math_bits_deBruijn64tab) :: r) W) : Env W := by
  have ht : Lib.TabIs Tryd.prog W "math/bits.deBruijn64tab" .u8 (Lib.deBruijn64tab.map fun a : Nat => (a : Int)) := Lib.tabIs_of_head gTab gTabType Tryd.underlying155 Tryd.underlying5 cellsU8 cellsTab h.tail
  intro j hj
  rw [ht.cell gTab j (by simpa using hj)]
  simp [List.getD_eq_getElem?_getD, hj]
end Go.Proofs.YtdhbaegkogklgaaDoor.least

/- Arguments of the laws, opened: a Graph as it came in, a slice of integers as it came in. -/
namespace Go.Proofs.YtdhbaegkogklgaaDoor.opens
open Go.RowKit Go.Joins Go.ChangeShapes Go.WideShapes Go.Deep P2 words

theorem addr_add (g o j : Nat) : (⟨g, o, none⟩ : Addr).add j = ⟨g, o + j, none⟩ := by unfold Addr.add; split <;> simp_all
theorem add_of_add (a : Addr) (i j : Nat) : (a.add i).add j = a.add (i + j) := by
  unfold Addr.add
  by_cases hi : i = 0 <;> by_cases hj : j = 0 <;> simp [hi, hj, Nat.add_assoc]

/-- what is told of a Graph that came in -/
def IsGr (w : World) (s : Int) (v : Value) (l : List Ed) : Prop :=
  Edges w v l ∧ l.length ≤ maxLen ∧ -9223372036854775808 ≤ s ∧ s ≤ 9223372036854775807

theorem bounds64 {n : Int} (h : (Lit.int .i64 n).wf = true) : -9223372036854775808 ≤ n ∧ n ≤ 9223372036854775807 := by
  simp [Lit.wf, IntKind.min, IntKind.max, IntKind.signed, IntKind.bits] at h
  omega

/-- what is told of a slice of integers that came in -/
def IsIn (w : World) (v : Value) (l : List Int) : Prop := Ints w v l ∧ l.length ≤ maxLen ∧ ∀ x ∈ l, -9223372036854775808 ≤ x ∧ x ≤ 9223372036854775807

section
variable {H : Type} {enc : TypeId × Value → H} {w : World} {spare : Nat → Bool} {held : Bool}
theorem open_edges {fuel : Nat} {v : Value} {x : DataW H × List MemPlace} (h : DataW.trod enc Tryd.prog w 0 spare held fuel 22 [v] = some x) :
    ∃ l : List Ed, Edges w v l ∧ l.length ≤ maxLen := by
  rcases open_slice Tryd.underlying22 h with ⟨hv, _⟩ | ⟨a, len, cap, m, n, D, Pl, hv, _, hl, hm, hmm, _, hi⟩
  · obtain rfl : v = .slice none 0 0 := by simpa using hv
    exact ⟨[], Reads.nil _ _, Nat.zero_le _⟩
  · obtain rfl : v = .slice (some a) len cap := by simpa using hv
    have hlm : len ≤ m := by rw [hmm]; split <;> omega
    have hC : Tryd.prog.cellsOf 111 = 2 := by kernel_rfl
    have hC1 : Tryd.prog.cellsOf 3 = 1 := by kernel_rfl
    rw [hC] at hi
    have key : ∀ i, i < len → ∃ e : Ed, w.cell? (a.add (i * 2)) = some (.int .i64 e.1) ∧ w.cell? (a.add (i * 2 + 1)) = some (.int .i64 e.2) := fun i hil => by
      obtain ⟨cs', hc, ht⟩ := hi i (by omega)
      obtain ⟨xs, m', _, _, _, hxl, he⟩ := DataW.trod_array Tryd.underlying111 ht
      obtain ⟨_, hcl, hat⟩ := World.cells?_some hc
      rw [hC1] at he
      match cs', hcl with
      | [c0, c1], _ =>
        match xs, hxl with
        | [y0, y1], _ =>
          have e0 : DataW.trod enc Tryd.prog w 0 spare held m' 3 [c0] = some y0 := he 0 (by decide)
          have e1 : DataW.trod enc Tryd.prog w 0 spare held m' 3 [c1] = some y1 := he 1 (by decide)
          obtain ⟨n0, h0, _, _⟩ := DataW.trod_int Tryd.underlying3 e0
          obtain ⟨n1, h1, _, _⟩ := DataW.trod_int Tryd.underlying3 e1
          obtain rfl : c0 = .int .i64 n0 := by simpa using h0
          obtain rfl : c1 = .int .i64 n1 := by simpa using h1
          have a0 := hat 0 (by decide)
          have a1 := hat 1 (by decide)
          rw [add_of_add] at a0 a1
          exact ⟨(n0, n1), by simpa using a0, by simpa using a1⟩
    obtain ⟨f, hf⟩ := choose_lt (α := Ed) key
    refine ⟨(List.range len).map f, ⟨some a, cap, by simp, fun hn => ?_⟩, by simp; omega⟩
    simp only [List.length_map, List.length_range] at hn ⊢
    obtain ⟨b, off, spot⟩ := a
    have hc0 := (hf 0 hn).1
    have hspot : spot = none := by simpa [Addr.add] using World.cell?_spot hc0
    subst hspot
    refine ⟨b, off, rfl, hl, fun j u hu => ?_⟩
    have hjl : j < len * 2 := by
      have := (List.getElem?_eq_some_iff.1 hu).1
      rw [cellsE_len] at this; simpa using this
    obtain ⟨k, hk⟩ : ∃ k, k = j / 2 := ⟨_, rfl⟩
    have hkl : k < len := by omega
    have hkf : ((List.range len).map f)[k]? = some (f k) := by simp [hkl]
    have hck := cellsE_at hkf
    have hcl := hf k hkl
    rw [addr_add, addr_add] at hcl
    rcases Nat.mod_two_eq_zero_or_one j with h0 | h0
    · obtain rfl : j = k * 2 := by omega
      rw [hck.1] at hu
      rw [hcl.1, ← hu]
    · obtain rfl : j = k * 2 + 1 := by omega
      rw [hck.2] at hu
      rw [hcl.2, ← hu]

set_option maxRecDepth 100000 in
theorem open_graph {r : Reach} {b0 : Nat} {v : Value} {d : DataW H} {p : List MemPlace} (hv : Value.okWide Tryd.prog w r b0 24 v)
    (h : DataW.Trod enc Tryd.prog w 0 spare held 24 v d p) : ∃ s u l, v = .agg #[.int .i64 s, u] ∧ IsGr w s u l := by
  obtain ⟨c0, c1, y0, y1, m, rfl, _, _, h0, h1⟩ := open_agg2 Tryd.underlying24 (by kernel_rfl) (by kernel_rfl) hv h
  obtain ⟨n0, k0, _, w0⟩ := DataW.trod_int Tryd.underlying3 h0
  obtain rfl : c0 = .int .i64 n0 := by simpa using k0
  obtain ⟨l, he, hl⟩ := open_edges h1
  exact ⟨n0, c1, l, rfl, he, hl, bounds64 w0⟩

set_option maxRecDepth 100000 in
theorem open_intsl {r : Reach} {b0 : Nat} {v : Value} {d : DataW H} {p : List MemPlace} (hv : Value.okWide Tryd.prog w r b0 25 v)
    (h : DataW.Trod enc Tryd.prog w 0 spare held 25 v d p) : ∃ u l, v = u ∧ IsIn w u l := by
  obtain ⟨A, len, cap, rfl⟩ := okWide_slice Tryd.underlying25 hv
  obtain ⟨fuel, hf⟩ := h
  simp only [Value.cells] at hf
  rcases open_slice Tryd.underlying25 hf with ⟨hv, _⟩ | ⟨a, len', cap', m, n, D, Pl, hv, _, hl, hm, hmm, _, hi⟩
  · have e : Value.slice A len cap = .slice none 0 0 := by simpa using hv
    rw [e]
    exact ⟨_, [], rfl, Reads.nil _ _, Nat.zero_le _, fun x hx => by cases hx⟩
  · have e : Value.slice A len cap = .slice (some a) len' cap' := by simpa using hv
    rw [e]
    have hlm : len' ≤ m := by rw [hmm]; split <;> omega
    have hC1 : Tryd.prog.cellsOf 3 = 1 := by kernel_rfl
    rw [hC1] at hi
    have key : ∀ i, i < len' → ∃ x : Int, w.cell? (a.add i) = some (.int .i64 x) ∧ (Lit.int .i64 x).wf = true := fun i hil => by
      obtain ⟨cs', hc, ht⟩ := hi i (by omega)
      obtain ⟨_, hcl, hat⟩ := World.cells?_some hc
      match cs', hcl with
      | [c0], _ =>
        obtain ⟨n0, h0, _, hw⟩ := DataW.trod_int Tryd.underlying3 ht
        obtain rfl : c0 = .int .i64 n0 := by simpa using h0
        have a0 := hat 0 (by decide)
        rw [add_of_add, Nat.mul_one] at a0
        exact ⟨n0, by simpa using a0, hw⟩
    obtain ⟨f, hf⟩ := choose_lt (α := Int) key
    refine ⟨_, (List.range len').map f, rfl, ⟨some a, cap', by simp, fun hn => ?_⟩, by simp; omega, fun x hx => ?_⟩
    · simp only [List.length_map, List.length_range] at hn ⊢
      obtain ⟨b, off, spot⟩ := a
      have hc0 := (hf 0 hn).1
      have hspot : spot = none := by simpa [Addr.add] using World.cell?_spot hc0
      subst hspot
      refine ⟨b, off, rfl, hl, fun j u hu => ?_⟩
      have hjl : j < len' := by
        have := (List.getElem?_eq_some_iff.1 hu).1
        rw [cellsI_len] at this; simpa using this
      have hcl := (hf j hjl).1
      rw [addr_add] at hcl
      have hkf : ((List.range len').map f)[j]? = some (f j) := by simp [hjl]
      rw [cellsI_at hkf] at hu
      rw [hcl, ← hu]
    · simp only [List.mem_map, List.mem_range] at hx
      obtain ⟨j, hj, rfl⟩ := hx
      exact bounds64 (hf j hj).2
end
end Go.Proofs.YtdhbaegkogklgaaDoor.opens
