/- Guards: the contract of the program's WorstAttack. -/
import Derived.Handy
import Derived.Test.YtdhbaegkogklgaaDoorK24
import Derived.Deep.DeepCutAuto
import Derived.Deep.RegionHeld3
import Derived.Deep.QuietTactic
import Derived.Test.YtdhbaegkogklgaaDoorK25
namespace Go.Proofs.YtdhbaegkogklgaaDoor.ups
open Go.RowKit Go.Maps P2 words edges ints owns good adjs fns sets rets covs bags bitsI func lists least near grid
set_option linter.unusedVariables false

/-- guards that can be beaten -/
def WoOk (s : Int) (l : List Ed) (all : Bool) (xs : List Int) : Prop := SetOk s l xs ∧ ¬ resV s.toNat l all (setsK s.toNat xs.length) (codeL xs) < 0
noncomputable def woX (s : Int) (l : List Ed) (all : Bool) (xs : List Int) : Int := watX s.toNat l all (setsK s.toNat xs.length) (codeL xs)
set_option maxHeartbeats 1000000 in
set_option maxRecDepth 100000 in
theorem woClo_any (a x b2 : Nat) (w : World) (h : w.cell? ⟨b2, 0, none⟩ = some (.int .u64 (a : Int))) (ha : a < 256) (hx : x ≤ 8) :
    Calls Tryd.prog 49 #[.int .i64 (x : Int), .pointer (some ⟨b2, 0, none⟩)] w fun e w' => e = .returned (.bool (!a.testBit x)) ∧ Below w.heap.size w w' := by
  have HH := Lib.hid (fun (W : World) => has_any a x W (by omega) hx)
  generalize a.testBit x = bb at *
  go_enter Tryd.func49, Tryd.ntmps49
  go_wp2_with fail
  refine (HH.out _).mono ?_
  rintro e w' ⟨rfl, rfl⟩
  go_wp2_with fail
  go_ret
  exact ⟨rfl, Below.refl _ _⟩
set_option maxHeartbeats 4000000 in
set_option maxRecDepth 100000 in
theorem woVal_any (n a x b b1 b2 b3 km : Nat) (all : Bool) (vc vs : Value) (L : List Nat) (l : List Ed) (D : DataW Unit) (w : World) (hE : Env w) (h1 : Blk w b1 67 #[vc, .func (.func (ruleF all)) #[] #[], vs]) (h2 : w.cell? ⟨b2, 0, none⟩ = some (.int .u64 (a : Int))) (h3 : w.cell? ⟨b3, 0, none⟩ = some (.map (some b)))
    (hc : Nums w vc (clos l n)) (hs : Nums w vs L) (hL : ∀ c ∈ L, c < 2 ^ n) (hLl : L.length ≤ 256) (hg : P2.Good (n : Int) l) (hn : n ≤ 8) (ha : a < 2 ^ n) (hx : x ≤ 8)
    (hm : w.ownsMap Tryd.prog 70 (plainElem Tryd.prog 3) b km D) (hD : ∀ c ∈ L, AtU D c (resP n l all L c)) :
    Calls Tryd.prog 53 #[.int .i64 (x : Int), .pointer (some ⟨b1, 0, none⟩), .pointer (some ⟨b3, 0, none⟩), .pointer (some ⟨b2, 0, none⟩)] w fun e w' => e = .returned (.int .i64 (lvV n l all L a (x : Int))) ∧ Below w.heap.size w w' := by
  obtain ⟨p0, p1, p2⟩ := blkW h1
  have HBA := Lib.hid (bestAnswer_any n a x b km all vc vs L l D w hE hc hs hL hLl hg hn ha hx hm hD)
  have HM := Lib.hid hm
  have H3 := Lib.hid h3
  unfold watV at HBA
  have HV : Hid (lvV n l all L a (x : Int) = if (ansF l all L x a).length = 0 then -1 else resP n l all L (banV n l all L x a)) := by show _ = _; unfold lvV; rw [Int.toNat_natCast]
  by_cases hF : (ansF l all L x a).length = 0
  · have hd : decide (0 < (ansF l all L x a).length) = false := decide_eq_false (by omega)
    rw [if_pos hF, hd] at HBA
    have HR : Hid (lvV n l all L a (x : Int) = -1) := by show _ = _; rw [HV.out, if_pos hF]
    clear hE h1 hc hs hL hg hm hD hd hF HV
    go_enter Tryd.func53, Tryd.ntmps53
    go_wp2_with fail
    refine HBA.out.mono ?_
    rintro e w2 ⟨rfl, b2⟩
    go_wp2_with fail
    go_ret
    rw [HR.out]
    exact ⟨rfl, b2⟩
  · have hd : decide (0 < (ansF l all L x a).length) = true := decide_eq_true (by omega)
    rw [if_neg hF, hd] at HBA
    have hbm := (ansF_mem (banV_mem (n := n) (l := l) (all := all) (L := L) (x := x) (a := a) (fun e => hF (by rw [e]; rfl)))).1
    have HR : Hid (lvV n l all L a (x : Int) = resP n l all L (banV n l all L x a)) := by show _ = _; rw [HV.out, if_neg hF]
    have HK := Lib.hid (ukey (Nat.lt_of_lt_of_le (hL _ hbm) (pow_le hn)))
    have HD := Lib.hid (hD _ hbm)
    clear hE h1 hc hs hL hg hm hD hd hF HV hbm
    generalize banV n l all L x a = bv at *
    generalize resP n l all L bv = rp at *
    go_enter Tryd.func53, Tryd.ntmps53
    go_wp2_with fail
    refine HBA.out.mono ?_
    rintro e w2 ⟨rfl, b2⟩
    have c3 := nearv.cell_keep H3.out b2
    have hm2 : w2.ownsMap Tryd.prog 70 (plainElem Tryd.prog 3) b km D := HM.out.kept (row := none) (gof b2 none) (by simp)
    have HB2 := Lib.hid b2
    clear h3 b2 p0 p1 p2
    go_wp2_with (at_lookup; refine wpList_lookup_own_int _ rfl _ _ 72 rfl 70 3 .i64 lawU Tryd.underlying72 Tryd.underlying3 rfl b km D rfl hm2 _ _ rfl HK.out ?_; intro c hc _; obtain rfl : rp = c := (by have h_ := hc.symm.trans HD.out; simp at h_; exact h_.symm))
    go_ret
    rw [HR.out]
    exact ⟨rfl, HB2.out⟩
set_option maxHeartbeats 8000000 in
set_option maxRecDepth 100000 in
theorem implWo_any (s : Int) (all : Bool) (v u : Value) (l : List Ed) (xs : List Int) (w : World) (hE : Env w) (h : Edges w v l) (hl : l.length ≤ 1048576) (hu : Ints w u xs) (hxl : xs.length ≤ 1048576) :
    Calls Tryd.prog 13 #[.agg #[.int .i64 s, v], u, .bool all] w (RetN w (WoOk s l all xs) (woX s l all xs)) := by
  have hmf : ∀ (fn : Fn) (first cap : Array Value) (w : World), (Instr.makeFunc fn first cap).run Tryd.prog w = .ok (.func fn first cap) w := fun _ _ _ _ => rfl
  obtain ⟨A, c, rfl, -⟩ := h.form
  obtain ⟨A2, c2, rfl, -⟩ := hu.form
  have H := Lib.hid h
  have HU := Lib.hid hu
  have HEN := Lib.hid hE
  have b0 : Below w.heap.size w (w.alloc (.cells #[.int .i64 s, .slice A l.length c] 29)) := (Below.refl _ _).alloc (Nat.le_refl _) _
  have g0 := Blk.new w 29 #[.int .i64 s, .slice A l.length c]
  obtain ⟨p0, p1, -, -⟩ := g0.two
  have HS := Lib.hid (hasSet_any s (.slice A l.length c) (.slice A2 xs.length c2) l xs _ (h.below b0) hl (hu.below b0) hxl)
  have HB0 := Lib.hid b0
  have HG0 := Lib.hid g0
  clear h hu b0 g0 hE
  by_cases hok : SetOk s l xs
  · rw [okG_yes hok] at HS
    have HOK := Lib.hid hok
    have h0 := hok.1.1
    have h8 := hok.1.2.1
    obtain ⟨n, rfl⟩ : ∃ n : Nat, s = (n : Int) := ⟨s.toNat, by omega⟩
    have hn : n ≤ 8 := by omega
    have hk8 : xs.length ≤ 8 := Nat.le_trans (asc_len hok.2.2 hok.2.1) hn
    have HWI := Lib.hid (fun (W : World) (hW : Below w.heap.size w W) => watchIn_any n xs.length all (.slice A l.length c) l W (H.out.below hW) hl hok.1 hn hk8)
    have HBO := Lib.hid (fun (W : World) (hW : Below w.heap.size w W) => bitsOf_any (.slice A2 xs.length c2) xs W (HU.out.below hW) hxl (fun x hx => by have := hok.2.1 x hx; omega))
    have hsl := setsK_len hn hk8
    have ha2 := code_set hok
    have ha8 := Nat.lt_of_lt_of_le ha2 (pow_le hn)
    have haL : codeL xs ∈ setsK n xs.length := (setsK_mem hn hk8).2 ⟨ha2, set_onesM hn hok⟩
    have hrp := resP_lt (n := n) (l := l) (all := all) hsl haL
    have HL2 : Hid (∀ c ∈ setsK n xs.length, c < 2 ^ n) := fun c hc => ((setsK_mem hn hk8).1 hc).1
    have HRE := Lib.hid (fun (W : World) (vc vs : Value) (hW : Below w.heap.size w W) (hc : Nums W vc (clos l n)) (hs : Nums W vs (setsK n xs.length)) => resistances_any n all vc vs (setsK n xs.length) l W (HEN.out.next hW) hc hs HL2.out hsl hok.1 hn)
    have HKY := Lib.hid (ukey ha8)
    have HGD := Lib.hid hok.1
    have HV1 : Hid (WoOk (n : Int) l all xs ↔ ¬ resV n l all (setsK n xs.length) (codeL xs) < 0) := by
      show _ ↔ _
      unfold WoOk
      rw [Int.toNat_natCast]
      exact ⟨fun h => h.2, fun h => ⟨hok, h⟩⟩
    have HV2 : Hid (woX (n : Int) l all xs = watX n l all (setsK n xs.length) (codeL xs)) := by show _ = _; unfold woX; rw [Int.toNat_natCast]
    have HNE : Hid (¬ resV n l all (setsK n xs.length) (codeL xs) < 0 → 0 < (nw (fun x => !(codeL xs).testBit x) n).length) := fun h => by
      refine List.length_pos_iff.2 fun e => h ?_
      have hall : ∀ x, x < n → (codeL xs).testBit x = true := fun x hx => by
        cases hb : (codeL xs).testBit x with
        | true => rfl
        | false =>
          have : ((x : Nat) : Int) ∈ nw (fun x => !(codeL xs).testBit x) n := mem_nw.2 ⟨x, hx, by rw [hb]; rfl, rfl⟩
          rw [e] at this; simp at this
      have hu : ∀ t, codeL xs ∈ usN n l all (setsK n xs.length) t := fun t => by
        induction t with
        | zero => exact haL
        | succ t ih => exact List.mem_filter.2 ⟨ih, by
            unfold holdB
            rw [List.all_eq_true]
            intro x hx
            rw [hall x (List.mem_range.1 hx)]; rfl⟩
      unfold resV
      rw [okG_no (fun ⟨t, ht⟩ => ht.2 (hu (t + 1))), if_neg (by decide)]; decide
    have HAL := Lib.hid haL
    clear hok haL
    generalize setsK n xs.length = L at *
    generalize codeL xs = a at *
    go_enter Tryd.func13, Tryd.ntmps13
    go_wp2_with fail
    refine HS.out.mono ?_
    rintro e w1 ⟨rfl, b1⟩
    have HE1 := Lib.hid (btrans HB0.out b1)
    have HG1 := Lib.hid (HG0.out.below b1 HG0.out.lt)
    clear p0 p1 b1
    obtain ⟨p0, p1, -, -⟩ := HG1.out.two
    go_wp2_with fail
    refine (HWI.out w1 HE1.out).mono ?_
    rintro e w2 ⟨A3, c3, A4, c4, rfl, i3, o4, b2⟩
    have HE2_ := Lib.hid (btrans HE1.out b2)
    have HG2_ := Lib.hid (HG1.out.below b2 HG1.out.lt)
    clear p0 p1
    obtain ⟨p0, p1, -, -⟩ := HG2_.out.two
    have HI3 := Lib.hid i3
    have HO4 := Lib.hid o4
    clear i3 o4 b2
    unfold watV
    go_wp2_with fail
    refine (HBO.out w2 HE2_.out).mono ?_
    rintro e w' ⟨rfl, rfl⟩
    obtain ⟨W2, hW2⟩ : ∃ W2, W2 = (w2.alloc (.cells #[.slice A3 (clos l n).length c3, .func (.func (ruleF all)) #[] #[], .slice A4 L.length c4] 67)).alloc (.cells #[.int .u64 (a : Int)] 70) := ⟨_, rfl⟩
    have d2 : Below w2.heap.size w2 W2 := by rw [hW2]; exact ((Below.refl _ _).alloc (Nat.le_refl _) _).alloc (by simp) _
    have HE2 := Lib.hid (btrans HE2_.out d2)
    have HK2 : Hid (Blk W2 w2.heap.size 67 #[.slice A3 (clos l n).length c3, .func (.func (ruleF all)) #[] #[], .slice A4 L.length c4]) := by show Blk _ _ _ _; rw [hW2]; exact (Blk.new _ _ _).alloc _
    have HA2 : Hid (Blk W2 (w2.heap.size + 1) 70 #[.int .u64 (a : Int)]) := by
      have h_ := Blk.new (w2.alloc (.cells #[.slice A3 (clos l n).length c3, .func (.func (ruleF all)) #[] #[], .slice A4 L.length c4] 67)) 70 #[.int .u64 (a : Int)]
      rw [World.size_alloc] at h_
      show Blk _ _ _ _; rw [hW2]; exact h_
    have HG2 := Lib.hid (HG2_.out.below d2 HG2_.out.lt)
    have HN2 : Hid (Nums W2 (.slice A4 L.length c4) L) := (show Nums w2 _ _ from Reads.of_own HO4.out).below d2
    have HC2 := Lib.hid (HI3.out.below d2)
    have HRE2 := Lib.hid (HRE.out W2 _ _ HE2.out HC2.out HN2.out)
    have HW2 := Lib.hid hW2
    unfold watV at HRE2
    clear d2 hW2 p0 p1
    go_wp2_with fail
    rw [← HW2.out]
    refine HRE2.out.mono ?_
    rintro e w3 ⟨b, km, D, rfl, hbw, hmp, hat, b3⟩
    obtain ⟨W3, hW3⟩ : ∃ W3, W3 = w3.alloc (.cells #[.map (some b)] 72) := ⟨_, rfl⟩
    have d3 : Below w3.heap.size w3 W3 := by rw [hW3]; exact (Below.refl _ _).alloc (Nat.le_refl _) _
    have e3 : Below W2.heap.size W2 W3 := btrans b3 d3
    have HE3 := Lib.hid (btrans HE2.out e3)
    have HT3 : Hid (Blk W3 w3.heap.size 72 #[.map (some b)]) := by show Blk _ _ _ _; rw [hW3]; exact Blk.new _ _ _
    have HM3 : Hid (W3.ownsMap Tryd.prog 70 (plainElem Tryd.prog 3) b km D) := by show World.ownsMap _ _ _ _ _ _ _; rw [hW3]; exact hmp.alloc _
    have hm3 := hmp.alloc (.cells #[.map (some b)] 72)
    have HK3 := Lib.hid (HK2.out.below e3 HK2.out.lt)
    have HA3 := Lib.hid (HA2.out.below e3 HA2.out.lt)
    have HN3 := Lib.hid (HN2.out.below e3)
    have HC3 := Lib.hid (HC2.out.below e3)
    have HATT := Lib.hid hat
    have hda := hat a HAL.out
    have r0 := HA3.out.cell 0
    obtain ⟨p0, p1, -, -⟩ := (HG2.out.below e3 HG2.out.lt).two
    have HW3 := Lib.hid hW3
    rw [hW3] at r0 p0 p1
    clear hmp hat b3 hW3 d3 e3 hbw
    by_cases hr : resV n l all L a < 0
    · rw [hrp.1.1 hr] at hda
      have HD := Lib.hid hda
      have HNO : Hid (¬ WoOk (n : Int) l all xs) := fun h => by have := HV1.out.1 h; omega
      clear hr hda hrp
      go_wp2_with (at_lookup; refine wpList_lookup_own_int _ rfl _ _ 72 rfl 70 3 .i64 lawU Tryd.underlying72 Tryd.underlying3 rfl b km D rfl hm3 _ _ rfl HKY.out ?_; intro c hc _; obtain rfl : c = 9223372036854775807 := (by have h_ := hc.symm.trans HD.out; simpa using h_))
      go_ret2
      rw [← HW3.out]
      exact RetN.no HNO.out HE3.out
    · have HY := Lib.hid (HV1.out.2 (by omega))
      have HLN := Lib.hid (HNE.out (by omega))
      have hne : ¬ resP n l all L a = 9223372036854775807 := fun e => hr (hrp.1.2 e)
      have HD := Lib.hid hda
      obtain ⟨rp, hrpe⟩ : ∃ rp, resP n l all L a = rp := ⟨_, rfl⟩
      rw [hrpe] at HD hne
      have hq : (rp == 9223372036854775807) = false := beq_eq_false_iff_ne.2 hne
      clear hr hda hrp hrpe hne
      have HNW := Lib.hid (nodesWhere_any n 49 #[.pointer (some ⟨w2.heap.size + 1, 0, none⟩)] (fun x => !a.testBit x) W3 hn
        { enter := fun _ _ => by kernel_rfl
          call := fun W hW x hx => woClo_any a x (w2.heap.size + 1) W ((HA3.out.below hW HA3.out.lt).cell 0) ha8 (by omega) })
      go_wp2_with (at_lookup; refine wpList_lookup_own_int _ rfl _ _ 72 rfl 70 3 .i64 lawU Tryd.underlying72 Tryd.underlying3 rfl b km D rfl hm3 _ _ rfl HKY.out ?_; intro c hc _; obtain rfl : rp = c := (by have h_ := hc.symm.trans HD.out; simp at h_; exact h_.symm))
      rw [← HW3.out]
      refine HNW.out.mono ?_
      rintro e w4 ⟨A5, c5, rfl, o5, b4⟩
      obtain ⟨W4, hW4⟩ : ∃ W4, W4 = w4.alloc (.cells #[.func (.func 53) #[] #[.pointer (some ⟨w2.heap.size, 0, none⟩), .pointer (some ⟨w3.heap.size, 0, none⟩), .pointer (some ⟨w2.heap.size + 1, 0, none⟩)]] 81) := ⟨_, rfl⟩
      have d4 : Below w4.heap.size w4 W4 := by rw [hW4]; exact (Below.refl _ _).alloc (Nat.le_refl _) _
      have c4_ : W4.cell? ⟨w4.heap.size, 0, none⟩ = some (.func (.func 53) #[] #[.pointer (some ⟨w2.heap.size, 0, none⟩), .pointer (some ⟨w3.heap.size, 0, none⟩), .pointer (some ⟨w2.heap.size + 1, 0, none⟩)]) := by rw [hW4]; exact (Blk.new w4 81 _).cell 0
      have e4 := btrans b4 d4
      have hmn := minFuncI_any (.slice A5 (nw (fun x => !a.testBit x) n).length c5) (nw (fun x => !a.testBit x) n) 101 #[.pointer (some ⟨w4.heap.size, 0, none⟩)] (lvV n l all L a) W4 ((show Ints w4 _ _ from Reads.of_own o5).below d4) (by have := nw_len (fun x => !a.testBit x) n; omega) HLN.out
        { enter := fun _ _ => by kernel_rfl
          call := fun W hW y hy z hz => byNumI_any y z w4.heap.size 53 #[.pointer (some ⟨w2.heap.size, 0, none⟩), .pointer (some ⟨w3.heap.size, 0, none⟩), .pointer (some ⟨w2.heap.size + 1, 0, none⟩)] (nw (fun x => !a.testBit x) n) (lvV n l all L a) W (nearv.cell_keep c4_ hW)
            { enter := fun _ _ => by kernel_rfl
              call := fun W5 hW5 q hq => by
                obtain ⟨x, hx, _, rfl⟩ := mem_nw.1 hq
                have e5 := btrans e4 (btrans hW hW5)
                exact woVal_any n a x b w2.heap.size (w2.heap.size + 1) w3.heap.size km all _ _ L l D W5 (HEN.out.next (btrans HE3.out e5)) (HK3.out.below e5 HK3.out.lt) ((HA3.out.below e5 HA3.out.lt).cell 0) ((HT3.out.below e5 HT3.out.lt).cell 0) (HC3.out.below e5) (HN3.out.below e5) HL2.out hsl HGD.out hn ha2 (by omega) (HM3.out.kept (row := none) (gof e5 none) (by simp)) HATT.out } hy hz }
      rw [show pkF (dnR (lvV n l all L a)) (nw (fun x => !a.testBit x) n) = watX n l all L a from rfl] at hmn
      have HMN := Lib.hid hmn
      have HE4 := Lib.hid (btrans HE3.out e4)
      have HW4 := Lib.hid hW4
      have HBN := Lib.hid (byNumberI_any 53 #[.pointer (some ⟨w2.heap.size, 0, none⟩), .pointer (some ⟨w3.heap.size, 0, none⟩), .pointer (some ⟨w2.heap.size + 1, 0, none⟩)] w4)
      clear p0 p1 r0 o5 b4 hmn hW4 c4_ e4 d4 hm3 hq
      go_wp2_with fail
      refine HBN.out.mono ?_
      rintro e w5 ⟨rfl, rfl⟩
      rw [← HW4.out]
      go_wp2_with fail
      refine HMN.out.mono ?_
      rintro e w6 ⟨rfl, b6⟩
      go_wp2_with fail
      go_ret2
      rw [HV2.out]
      exact RetN.yes HY.out (btrans HE4.out b6)
  · rw [okG_no hok] at HS
    have HNO : Hid (¬ WoOk s l all xs) := fun h => hok h.1
    clear hok
    go_enter Tryd.func13, Tryd.ntmps13
    go_wp2_with fail
    refine HS.out.mono ?_
    rintro e w1 ⟨rfl, b1⟩
    have HE1 := Lib.hid (btrans HB0.out b1)
    clear p0 p1 b1
    go_wp2_with fail
    go_ret2
    exact RetN.no HNO.out HE1.out
end Go.Proofs.YtdhbaegkogklgaaDoor.ups

/- Guards: worst attacks: mathematics. -/
namespace Go.Proofs.YtdhbaegkogklgaaDoor.ups
open Go.RowKit P2 words edges ints good adjs fns sets rets covs bitsI
set_option linter.unusedVariables false

theorem fold_ge (T : List Int) : ∀ (P : List Int) (m : Int), m ≤ P.foldl (fun m p => max m (T.getD p.toNat 0)) m ∧ ∀ p ∈ P, T.getD p.toNat 0 ≤ P.foldl (fun m p => max m (T.getD p.toNat 0)) m
  | [], m => ⟨Int.le_refl _, fun p hp => by simp at hp⟩
  | q :: P, m => by
    obtain ⟨h1, h2⟩ := fold_ge T P (max m (T.getD q.toNat 0))
    rw [List.foldl_cons]
    refine ⟨by omega, fun p hp => ?_⟩
    rcases List.mem_cons.1 hp with e | e
    · rw [e]; omega
    · exact h2 p e
theorem fold_in (T : List Int) : ∀ (P : List Int) (m : Int), P.foldl (fun m p => max m (T.getD p.toNat 0)) m = m ∨ ∃ p ∈ P, P.foldl (fun m p => max m (T.getD p.toNat 0)) m = T.getD p.toNat 0
  | [], m => .inl rfl
  | q :: P, m => by
    rw [List.foldl_cons]
    rcases fold_in T P (max m (T.getD q.toNat 0)) with h | ⟨p, hp, h⟩
    · rw [h]
      rcases Int.le_total m (T.getD q.toNat 0) with e | e
      · exact .inr ⟨q, List.mem_cons_self, Int.max_eq_right e⟩
      · exact .inl (Int.max_eq_left e)
    · exact .inr ⟨p, List.mem_cons_of_mem _ hp, h⟩
theorem pl_mem {l : List Ed} {all : Bool} {x a : Nat} {L : List Nat} {R : Nat → Int} {v : Int} : (∃ p ∈ plL l all x a L, (L.map R).getD p.toNat 0 = v) ↔ ∃ b ∈ ansF l all L x a, R b = v := by
  constructor
  · rintro ⟨p, hp, h⟩
    obtain ⟨j, hj⟩ := List.getElem?_of_mem hp
    obtain ⟨i, b, h1, h2, h3, h4⟩ := plL_get (List.getElem?_eq_some_iff.1 hj).1
    rw [hj] at h1; cases h1
    refine ⟨b, List.mem_of_getElem? h4, ?_⟩
    rw [show ((i : Int)).toNat = i from rfl, List.getD_eq_getElem?_getD, List.getElem?_map, h3] at h
    exact h
  · rintro ⟨b, hb, h⟩
    obtain ⟨j, hj⟩ := List.getElem?_of_mem hb
    obtain ⟨i, b2, h1, h2, h3, h4⟩ := plL_get (l := l) (all := all) (x := x) (a := a) (L := L) (k := j) (by rw [plL_len]; exact (List.getElem?_eq_some_iff.1 hj).1)
    rw [hj] at h4; cases h4
    refine ⟨(i : Int), List.mem_of_getElem? h1, ?_⟩
    rw [show ((i : Int)).toNat = i from rfl, List.getD_eq_getElem?_getD, List.getElem?_map, h3]
    exact h
/-- what the model's l10After tells -/
theorem aft_lv {n : Nat} {l : List Ed} {all : Bool} {L : List Nat} {a x : Nat} (hL : L.length ≤ 256) (hF : (ansF l all L x a).length ≠ 0) :
    lvV n l all L a (x : Int) = (if aftB (L.map (resV n l all L)) (plL l all x a L) = true then 9223372036854775807 else aftN (L.map (resV n l all L)) (plL l all x a L)) ∧ 0 ≤ lvV n l all L a (x : Int) ∧ lvV n l all L a (x : Int) ≤ 9223372036854775807 ∧ (aftB (L.map (resV n l all L)) (plL l all x a L) = false → lvV n l all L a (x : Int) < 9223372036854775807) := by
  have hne : ansF l all L x a ≠ [] := fun e => hF (by rw [e]; rfl)
  have hm := banV_mem (n := n) hne
  have hbl := (ansF_mem hm).1
  have hb := resP_lt (n := n) (l := l) (all := all) hL hbl
  have hbk := resP_back (n := n) (l := l) (all := all) hL hbl
  have hv : lvV n l all L a (x : Int) = resP n l all L (banV n l all L x a) := by unfold lvV; rw [Int.toNat_natCast, if_neg hF]
  rw [hv]
  have key : aftB (L.map (resV n l all L)) (plL l all x a L) = true ↔ resP n l all L (banV n l all L x a) = 9223372036854775807 := by
    unfold aftB
    rw [List.any_eq_true]
    constructor
    · rintro ⟨p, hp, h⟩
      obtain ⟨b, hbF, hR⟩ := (pl_mem (R := resV n l all L)).1 ⟨p, hp, rfl⟩
      have h2 : resV n l all L b < 0 := by rw [hR]; exact of_decide_eq_true h
      have h3 := (resP_lt (n := n) (l := l) (all := all) hL (ansF_mem hbF).1).1.1 h2
      have := banV_le (n := n) hbF
      omega
    · intro h
      have h2 := hb.1.2 h
      obtain ⟨p, hp, h3⟩ := (pl_mem (R := resV n l all L)).2 ⟨_, hm, rfl⟩
      exact ⟨p, hp, decide_eq_true (by rw [h3]; exact h2)⟩
  refine ⟨?_, hb.2.2.1, hb.2.2.2, fun hf => ?_⟩
  · by_cases h : aftB (L.map (resV n l all L)) (plL l all x a L) = true
    · rw [if_pos h]; exact key.1 h
    · rw [if_neg h]
      have hn : ¬ resV n l all L (banV n l all L x a) < 0 := fun h2 => h (key.2 (hb.1.1 h2))
      have hal : ∀ b ∈ ansF l all L x a, ¬ resV n l all L b < 0 := fun b hbF h2 => h (by
        have h3 := (resP_lt (n := n) (l := l) (all := all) hL (ansF_mem hbF).1).1.1 h2
        have := banV_le (n := n) hbF
        exact key.2 (by omega))
      have h4 := hb.2.1 hn
      unfold aftN
      obtain ⟨p, hp, h5⟩ := (pl_mem (R := resV n l all L)).2 ⟨_, hm, rfl⟩
      have h6 := (fold_ge (L.map (resV n l all L)) (plL l all x a L) 0).2 p hp
      rw [h5] at h6
      rcases fold_in (L.map (resV n l all L)) (plL l all x a L) 0 with h7 | ⟨q, hq, h7⟩
      · rw [h7] at h6 ⊢; omega
      · rw [h7] at h6 ⊢
        obtain ⟨b, hbF, hR⟩ := (pl_mem (R := resV n l all L)).1 ⟨q, hq, rfl⟩
        have h8 := banV_le (n := n) hbF
        have h9 := (resP_lt (n := n) (l := l) (all := all) hL (ansF_mem hbF).1).2.1 (hal b hbF)
        rw [← hR] at h6 ⊢
        omega
  · have : ¬ resP n l all L (banV n l all L x a) = 9223372036854775807 := fun e => by rw [key.2 e] at hf; cases hf
    have := hb.2.2.2
    omega
theorem lv_low {n : Nat} {l : List Ed} {all : Bool} {L : List Nat} {a x : Nat} (hL : L.length ≤ 256) : -1 ≤ lvV n l all L a (x : Int) ∧ ((ansF l all L x a).length = 0 → lvV n l all L a (x : Int) = -1) := by
  by_cases hF : (ansF l all L x a).length = 0
  · have : lvV n l all L a (x : Int) = -1 := by unfold lvV; rw [Int.toNat_natCast, if_pos hF]
    exact ⟨by omega, fun _ => this⟩
  · have := (aft_lv (n := n) hL hF).2.1
    exact ⟨by omega, fun h => absurd h hF⟩
/-- the first one that leaves the least is the worst attack -/
theorem wat_is {n : Nat} {l : List Ed} {all : Bool} {L : List Nat} {a y : Nat} (hy : y < n) (hb : a.testBit y = false) (h1 : ∀ z, z < n → a.testBit z = false → lvV n l all L a (y : Int) ≤ lvV n l all L a (z : Int)) (h2 : ∀ z, z < y → a.testBit z = false → lvV n l all L a (y : Int) < lvV n l all L a (z : Int)) : watX n l all L a = (y : Int) := by
  have hmy : (y : Int) ∈ nw (fun x => !a.testBit x) n := mem_nw.2 ⟨y, hy, by rw [hb]; rfl, rfl⟩
  obtain ⟨i, hi, h3, h4, h5⟩ := pk_dn (f := lvV n l all L a) (L := nw (fun x => !a.testBit x) n) _ (List.length_pos_of_mem hmy) (Nat.le_refl _)
  rw [pk_all] at h3 h4 h5
  change _ = some (watX n l all L a) at h3
  change ∀ j z, j < _ → _ → lvV n l all L a (watX n l all L a) ≤ lvV n l all L a z at h4
  change ∀ j z, j < i → _ → lvV n l all L a (watX n l all L a) < lvV n l all L a z at h5
  obtain ⟨x, hx, hbx, hxe⟩ := mem_nw.1 (List.mem_of_getElem? h3)
  rw [hxe] at h3 h4 h5 ⊢
  have hbx2 : a.testBit x = false := by simpa using hbx
  obtain ⟨j, hj⟩ := List.getElem?_of_mem hmy
  have h6 := h4 j _ (List.getElem?_eq_some_iff.1 hj).1 hj
  have h7 := h1 x hx hbx2
  rcases Nat.lt_trichotomy x y with e | e | e
  · have := h2 x e hbx2; omega
  · rw [e]
  · have hji : j < i := by
      rcases Nat.lt_trichotomy j i with e2 | e2 | e2
      · exact e2
      · rw [e2, h3] at hj; cases hj; omega
      · have hasc := List.pairwise_iff_getElem.1 (nw_asc (fun x => !a.testBit x) n)
        obtain ⟨k1, k2⟩ := List.getElem?_eq_some_iff.1 h3
        obtain ⟨k3, k4⟩ := List.getElem?_eq_some_iff.1 hj
        have := hasc i j k1 k3 e2
        rw [k2, k4] at this
        omega
    have := h5 j _ hji hj
    omega
/-- guards that can be beaten have an attack that leaves less -/
theorem wo_some {n : Nat} {l : List Ed} {all : Bool} {L : List Nat} {a : Nat} (hL : L.length ≤ 256) (ha : a ∈ L) (h : ¬ resV n l all L a < 0) : ∃ x, x < n ∧ a.testBit x = false ∧ lvV n l all L a (x : Int) < 9223372036854775807 := by
  obtain ⟨t, ht⟩ : ∃ t, Dep n l all L a t := by
    by_cases hd : ∃ t, Dep n l all L a t
    · exact hd
    · exact absurd (by unfold resV; rw [okG_no hd, if_neg (by decide)]; decide) h
  have hh : holdB n l all (usN n l all L t) a = false := by
    cases hb : holdB n l all (usN n l all L t) a with
    | false => rfl
    | true => exact absurd (us_step.2 ⟨ht.1, hb⟩) ht.2
  unfold holdB at hh
  rw [List.all_eq_false] at hh
  obtain ⟨x, hx, hxx⟩ := hh
  rw [Bool.or_eq_true, not_or] at hxx
  have hbx : a.testBit x = false := by simpa using hxx.1
  refine ⟨x, List.mem_range.1 hx, hbx, ?_⟩
  by_cases hF : (ansF l all L x a).length = 0
  · rw [(lv_low (n := n) hL).2 hF]; decide
  · have hm := banV_mem (n := n) (l := l) (all := all) (L := L) (x := x) (a := a) (fun e => hF (by rw [e]; rfl))
    have hmm := ansF_mem hm
    have hnu : banV n l all L x a ∉ usN n l all L t := fun hu => hxx.2 (List.any_eq_true.2 ⟨_, hu, hmm.2⟩)
    obtain ⟨s, _, hs⟩ := us_out hmm.1 t hnu
    have hr := resV_dep hs
    have hb := resP_lt (n := n) (l := l) (all := all) hL hmm.1
    have hbk := resP_back (n := n) (l := l) (all := all) hL hmm.1
    have hv : lvV n l all L a (x : Int) = resP n l all L (banV n l all L x a) := by unfold lvV; rw [Int.toNat_natCast, if_neg hF]
    rw [hv, hb.2.1 (by omega)]
    exact hbk.1
/-- the search for the worst attack behind the first k nodes -/
def WoR (n : Nat) (l : List Ed) (all : Bool) (L : List Nat) (a k : Nat) (bv lv : Int) : Prop :=
  (∀ z, z < k → a.testBit z = false → (ansF l all L z a).length ≠ 0) ∧ -9223372036854775808 ≤ lv ∧ lv ≤ 9223372036854775807 ∧
  ((bv = -1 ∧ ∀ z, z < k → a.testBit z = false → lvV n l all L a (z : Int) = 9223372036854775807) ∨
    ∃ y : Nat, bv = (y : Int) ∧ y < k ∧ a.testBit y = false ∧ lv = lvV n l all L a (y : Int) ∧ (∀ z, z < k → a.testBit z = false → lvV n l all L a (y : Int) ≤ lvV n l all L a (z : Int)) ∧ ∀ z, z < y → a.testBit z = false → lvV n l all L a (y : Int) < lvV n l all L a (z : Int))
theorem WoR.zero (n : Nat) (l : List Ed) (all : Bool) (L : List Nat) (a : Nat) : WoR n l all L a 0 (-1) 0 :=
  ⟨fun z hz => absurd hz (Nat.not_lt_zero _), by omega, by omega, .inl ⟨rfl, fun z hz => absurd hz (Nat.not_lt_zero _)⟩⟩
theorem WoR.skip {n : Nat} {l : List Ed} {all : Bool} {L : List Nat} {a k : Nat} {bv lv : Int} (h : WoR n l all L a k bv lv) (hb : a.testBit k = true) : WoR n l all L a (k + 1) bv lv := by
  have key : ∀ z, z < k + 1 → a.testBit z = false → z < k := fun z hz hz2 => by
    by_cases e : z = k
    · subst e; rw [hb] at hz2; cases hz2
    · omega
  refine ⟨fun z hz hz2 => h.1 z (key z hz hz2) hz2, h.2.1, h.2.2.1, ?_⟩
  rcases h.2.2.2 with ⟨h1, h2⟩ | ⟨y, h1, h2, h3, h4, h5, h6⟩
  · exact .inl ⟨h1, fun z hz hz2 => h2 z (key z hz hz2) hz2⟩
  · exact .inr ⟨y, h1, by omega, h3, h4, fun z hz hz2 => h5 z (key z hz hz2) hz2, h6⟩
theorem WoR.lost {n : Nat} {l : List Ed} {all : Bool} {L : List Nat} {a k : Nat} {bv lv : Int} (hL : L.length ≤ 256) (h : WoR n l all L a k bv lv) (hk : k < n) (hb : a.testBit k = false) (hF : (ansF l all L k a).length = 0) : watX n l all L a = (k : Int) := by
  have h1 := (lv_low (n := n) (l := l) (all := all) (L := L) (a := a) (x := k) hL).2 hF
  refine wat_is hk hb (fun z hz hz2 => ?_) (fun z hz hz2 => ?_)
  · rw [h1]; exact (lv_low hL).1
  · rw [h1]
    have := (aft_lv (n := n) hL (h.1 z hz hz2)).2.1
    omega
theorem WoR.take {n : Nat} {l : List Ed} {all : Bool} {L : List Nat} {a k : Nat} {bv lv : Int} (hL : L.length ≤ 256) (h : WoR n l all L a k bv lv) (hb : a.testBit k = false) (hF : (ansF l all L k a).length ≠ 0) (hlt : lvV n l all L a (k : Int) < 9223372036854775807) (hc : bv < 0 ∨ lvV n l all L a (k : Int) < lv) : WoR n l all L a (k + 1) (k : Int) (lvV n l all L a (k : Int)) := by
  have hlow := (aft_lv (n := n) hL hF).2
  refine ⟨fun z hz hz2 => ?_, by omega, by omega, .inr ⟨k, rfl, by omega, hb, rfl, fun z hz hz2 => ?_, fun z hz hz2 => ?_⟩⟩
  · by_cases e : z = k
    · rw [e]; exact hF
    · exact h.1 z (by omega) hz2
  · by_cases e : z = k
    · rw [e]; exact Int.le_refl _
    · rcases h.2.2.2 with ⟨h1, h2⟩ | ⟨y, h1, h2, h3, h4, h5, h6⟩
      · rw [h2 z (by omega) hz2]; omega
      · have := h5 z (by omega) hz2
        rcases hc with hc | hc
        · omega
        · omega
  · rcases h.2.2.2 with ⟨h1, h2⟩ | ⟨y, h1, h2, h3, h4, h5, h6⟩
    · rw [h2 z (by omega) hz2]; omega
    · have := h5 z (by omega) hz2
      rcases hc with hc | hc
      · omega
      · omega
theorem WoR.keep {n : Nat} {l : List Ed} {all : Bool} {L : List Nat} {a k : Nat} {bv lv : Int} (h : WoR n l all L a k bv lv) (hb : a.testBit k = false) (hF : (ansF l all L k a).length ≠ 0) (hc : lvV n l all L a (k : Int) = 9223372036854775807 ∨ (0 ≤ bv ∧ lv ≤ lvV n l all L a (k : Int))) : WoR n l all L a (k + 1) bv lv := by
  refine ⟨fun z hz hz2 => ?_, h.2.1, h.2.2.1, ?_⟩
  · by_cases e : z = k
    · rw [e]; exact hF
    · exact h.1 z (by omega) hz2
  · rcases h.2.2.2 with ⟨h1, h2⟩ | ⟨y, h1, h2, h3, h4, h5, h6⟩
    · rcases hc with hc | hc
      · exact .inl ⟨h1, fun z hz hz2 => by
          by_cases e : z = k
          · rw [e]; exact hc
          · exact h2 z (by omega) hz2⟩
      · omega
    · refine .inr ⟨y, h1, by omega, h3, h4, fun z hz hz2 => ?_, h6⟩
      by_cases e : z = k
      · rw [e]
        rcases hc with hc | hc
        · rw [hc]; rw [← h4]; exact h.2.2.1
        · omega
      · exact h5 z (by omega) hz2
theorem WoR.done {n : Nat} {l : List Ed} {all : Bool} {L : List Nat} {a : Nat} {bv lv : Int} (hL : L.length ≤ 256) (ha : a ∈ L) (h : WoR n l all L a n bv lv) (hr : ¬ resV n l all L a < 0) : watX n l all L a = bv := by
  rcases h.2.2.2 with ⟨h1, h2⟩ | ⟨y, h1, h2, h3, h4, h5, h6⟩
  · obtain ⟨x, hx, hb, hlt⟩ := wo_some hL ha hr
    have := h2 x hx hb
    omega
  · rw [h1]; exact wat_is h2 h3 h5 h6
end Go.Proofs.YtdhbaegkogklgaaDoor.ups

/- Guards: the contract of the model's WorstAttack. -/
namespace Go.Proofs.YtdhbaegkogklgaaDoor.ups
open Go.RowKit P2 words edges ints owns good adjs fns sets rets covs bags balls bitsI func lists times apps gridr grid trip minmax
set_option linter.unusedVariables false

set_option maxHeartbeats 8000000 in
set_option maxRecDepth 100000 in
theorem specWo_any (s : Int) (all : Bool) (v u : Value) (l : List Ed) (xs : List Int) (w : World) (h : Edges w v l) (hl : l.length ≤ 1048576) (hu : Ints w u xs) (hxl : xs.length ≤ 1048576) (hs1 : -9223372036854775808 ≤ s) (hs2 : s ≤ 9223372036854775807) :
    Calls Tryd.prog 10 #[.agg #[.int .i64 s, v], u, .bool all] w (RetN w (WoOk s l all xs) (woX s l all xs)) := by
  obtain ⟨A, c, rfl, -⟩ := h.form
  obtain ⟨A2, c2, rfl, -⟩ := hu.form
  have H := Lib.hid h
  have HU := Lib.hid hu
  have b0 : Below w.heap.size w (w.alloc (.cells #[.int .i64 s, .slice A l.length c] 29)) := (Below.refl _ _).alloc (Nat.le_refl _) _
  have g0 := Blk.new w 29 #[.int .i64 s, .slice A l.length c]
  obtain ⟨p0, p1, -, -⟩ := g0.two
  have HGD := Lib.hid (l2Good_any s _ l _ (h.below b0) hl hs1 hs2)
  have HB0 := Lib.hid b0
  have HG0 := Lib.hid g0
  clear h hu b0 g0
  by_cases hgd : P2.Good s l
  · rw [goodB_yes hgd] at HGD
    have h0 := hgd.1
    have h8 := hgd.2.1
    obtain ⟨n, rfl⟩ : ∃ n : Nat, s = (n : Int) := ⟨s.toNat, by omega⟩
    have hn : n ≤ 8 := by omega
    have HST := Lib.hid (fun (W : World) (hW : Below w.heap.size w W) => l2Set_any (n : Int) (.slice A l.length c) (.slice A2 xs.length c2) l xs W (HU.out.below hW) hxl h0 h8)
    by_cases hso : SetOk (n : Int) l xs
    · rw [okG_yes ((rises_set hgd).2 hso)] at HST
      have hk8 : xs.length ≤ 8 := Nat.le_trans (asc_len hso.2.2 hso.2.1) hn
      have hxa := set_nd hn hso
      have ha8 : codeL xs < 256 := Nat.lt_of_lt_of_le (code_set hso) (pow_le hn)
      have HHS := Lib.hid (fun (x : Nat) (W : World) (hW : Below w.heap.size w W) => (by have h_ := l1Has_any (.slice A2 xs.length c2) xs (x : Int) W (HU.out.below hW) hxl; rw [show decide ((x : Int) ∈ xs) = (codeL xs).testBit x from by rw [← has_nd ha8, ← hxa]] at h_; exact h_ : Calls Tryd.prog 41 #[.slice A2 xs.length c2, .int .i64 (x : Int)] W fun e w' => e = .returned (.bool ((codeL xs).testBit x)) ∧ W = w'))
      have HV1 : Hid (WoOk (n : Int) l all xs ↔ ¬ resV n l all (setsK n xs.length) (codeL xs) < 0) := by
        show _ ↔ _
        unfold WoOk
        rw [Int.toNat_natCast]
        exact ⟨fun h => h.2, fun h => ⟨hso, h⟩⟩
      have HV2 : Hid (woX (n : Int) l all xs = watX n l all (setsK n xs.length) (codeL xs)) := by show _ = _; unfold woX; rw [Int.toNat_natCast]
      obtain ⟨m, hm, hfst⟩ := place_of hn hk8 (code_set hso) (set_onesM hn hso)
      have HSE := Lib.hid (fun (W : World) => l10Sets_any n xs.length (.slice A l.length c) W hn hk8)
      have hsl := setsK_len hn hk8
      have HM2 : Hid (∀ c ∈ setsK n xs.length, c < 2 ^ n ∧ onesN c = xs.length) := fun c hc => (setsK_mem hn hk8).1 hc
      have HTB := Lib.hid (fun (t : Value) (us : List Value) (W : World) (hW : Below w.heap.size w W) (ht : ReadsG W t us (rowN (setsK n xs.length))) => l10Table_any n xs.length all (.slice A l.length c) t us (setsK n xs.length) l W (H.out.below hW) hl ht HM2.out hsl hgd hn)
      have HRS := Lib.hid (fun (t v : Value) (us vs : List Value) (W : World) (ht : ReadsG W t us (rowN (setsK n xs.length))) (hv : ReadsGG W v vs (tblL n l all (setsK n xs.length))) => l10Resist_any n xs.length all v t us vs (setsK n xs.length) l W ht hv HM2.out hsl hn)
      have HAT := Lib.hid (fun (t : Value) (us : List Value) (W : World) (hW : Below w.heap.size w W) (ht : ReadsG W t us (rowN (setsK n xs.length))) => l4AtI_any t (.slice A2 xs.length c2) us (rowN (setsK n xs.length)) xs m W ht (HU.out.below hW) (by have h_ := rowN_at hm; rw [← hxa] at h_; exact h_) (fun j z hj hz => by have h_ := hfst j z hj hz; rw [← hxa] at h_; exact h_) (fun r hr => by obtain ⟨z, _, rfl⟩ := List.mem_map.1 hr; have := nw_len (bitB z) 8; unfold ndN; omega) (by rw [rowN_len]; omega))
      have HTL : Hid (((setsK n xs.length).map (resV n l all (setsK n xs.length))).length = (setsK n xs.length).length) := List.length_map _
      have HTM : Hid (((setsK n xs.length).map (resV n l all (setsK n xs.length)))[m]? = some (resV n l all (setsK n xs.length) (codeL xs))) := by show _ = _; rw [List.getElem?_map, hm]; rfl
      have HTBL : Hid ((tblL n l all (setsK n xs.length)).length = (setsK n xs.length).length) := tblT_len n l all _ (Nat.le_refl _)
      have HTBM : Hid ((tblL n l all (setsK n xs.length))[m]? = some (tbR l all (setsK n xs.length) (codeL xs) n)) := by
        show _ = _
        unfold tblL tblT; rw [List.take_length, List.getElem?_map, hm]; rfl
      have HTRL := Lib.hid (tbR_len l all (setsK n xs.length) (codeL xs) n)
      have HTRX : Hid (∀ x, x < n → (codeL xs).testBit x = false → (tbR l all (setsK n xs.length) (codeL xs) n)[x]? = some (plL l all x (codeL xs) (setsK n xs.length))) := fun x hx hb => by unfold tbR; rw [List.getElem?_map, List.getElem?_range hx]; simp [hb]
      have HAF := Lib.hid (fun (x : Nat) (q t : Value) (W : World) (hq : Ints W q (plL l all x (codeL xs) (setsK n xs.length))) (ht : Ints W t ((setsK n xs.length).map (resV n l all (setsK n xs.length)))) =>
        l10After_any q t (plL l all x (codeL xs) (setsK n xs.length)) ((setsK n xs.length).map (resV n l all (setsK n xs.length))) W hq ht (fun p hp => by obtain ⟨j, hj⟩ := List.getElem?_of_mem hp; obtain ⟨i, h1, h2⟩ := plL_at hj; exact ⟨i, h1, by rw [List.length_map]; exact h2⟩) (Nat.le_trans (nw_len _ _) (by omega)) (by rw [List.length_map]; omega))
      have HPL := Lib.hid (fun x => plL_len l all x (codeL xs) (setsK n xs.length))
      have HLV := Lib.hid (fun (x : Nat) (hF : (ansF l all (setsK n xs.length) x (codeL xs)).length ≠ 0) => aft_lv (n := n) (x := x) hsl hF)
      have haL : codeL xs ∈ setsK n xs.length := (setsK_mem hn hk8).2 ⟨code_set hso, set_onesM hn hso⟩
      have HW0 : Hid (WoR n l all (setsK n xs.length) (codeL xs) 0 (-1) 0) := WoR.zero _ _ _ _ _
      have HWD := Lib.hid (fun (bv lv : Int) (h : WoR n l all (setsK n xs.length) (codeL xs) n bv lv) => WoR.done hsl haL h)
      have HWL := Lib.hid (fun (k : Nat) (bv lv : Int) (h : WoR n l all (setsK n xs.length) (codeL xs) k bv lv) => WoR.lost hsl h)
      have HWT := Lib.hid (fun (k : Nat) (bv lv : Int) (h : WoR n l all (setsK n xs.length) (codeL xs) k bv lv) => WoR.take hsl h)
      have hml := (List.getElem?_eq_some_iff.1 hm).1
      have hmT : (m : Int) < (((setsK n xs.length).map (resV n l all (setsK n xs.length))).length : Int) := by rw [HTL.out]; omega
      have hmB : (m : Int) < ((tblL n l all (setsK n xs.length)).length : Int) := by rw [HTBL.out]; omega
      clear hgd hso hm hfst hxa haL
      generalize tblL n l all (setsK n xs.length) = TB at *
      generalize tbR l all (setsK n xs.length) (codeL xs) n = TR at *
      generalize hTE : (setsK n xs.length).map (resV n l all (setsK n xs.length)) = T at *
      clear hTE
      generalize setsK n xs.length = LK at *
      generalize codeL xs = a at *
      go_enter Tryd.func10, Tryd.ntmps10
      go_wp2_with fail
      refine (HGD.out).mono ?_
      rintro e w1 ⟨rfl, b1⟩
      have HE1 := Lib.hid (btrans HB0.out b1)
      have HG1 := Lib.hid (HG0.out.below b1 HG0.out.lt)
      clear p0 p1 b1
      obtain ⟨p0, p1, -, -⟩ := HG1.out.two
      go_wp2_with fail
      refine (HST.out w1 HE1.out).mono ?_
      rintro e w2 ⟨rfl, b2⟩
      have HE2 := Lib.hid (btrans HE1.out b2)
      have HG2 := Lib.hid (HG1.out.below b2 HG1.out.lt)
      clear p0 p1 b2
      obtain ⟨p0, p1, -, -⟩ := HG2.out.two
      go_wp2_with fail
      refine (HSE.out w2).mono ?_
      rintro e w4 ⟨A5, c5, us5, rfl, o5, b4⟩
      have HE4 := Lib.hid (btrans HE2.out b4)
      have HG4 := Lib.hid (HG2.out.below b4 HG2.out.lt)
      have HS4 := Lib.hid (gridl.readsG_of_own o5)
      clear p0 p1 b4 o5
      obtain ⟨p0, p1, -, -⟩ := HG4.out.two
      go_wp2_with fail
      refine (HTB.out _ us5 w4 HE4.out HS4.out).mono ?_
      rintro e w5 ⟨A6, c6, us6, rfl, o6, b5⟩
      have HE5 := Lib.hid (btrans HE4.out b5)
      have HG5 := Lib.hid (HG4.out.below b5 HG4.out.lt)
      have HS5 := Lib.hid (HS4.out.below b5)
      have HT5 := Lib.hid o6.reads
      clear p0 p1 b5 o6
      go_wp2_with fail
      refine (HRS.out _ _ us5 us6 w5 HS5.out HT5.out).mono ?_
      rintro e w6 ⟨A7, c7, rfl, o7, b6⟩
      have HE6 := Lib.hid (btrans HE5.out b6)
      have HG6 := Lib.hid (HG5.out.below b6 HG5.out.lt)
      have HS6 := Lib.hid (HS5.out.below b6)
      have HT6 := Lib.hid (HT5.out.below b6)
      have HR6 : Hid (Ints w6 (.slice A7 T.length c7) T) := Reads.of_own o7
      clear b6 o7
      go_wp2_with fail
      refine (HAT.out _ us5 w6 HE6.out HS6.out).mono ?_
      rintro e w7 ⟨rfl, b7⟩
      have HE7 := Lib.hid (btrans HE6.out b7)
      have HG7 := Lib.hid (HG6.out.below b7 HG6.out.lt)
      have HT7 := Lib.hid (HT6.out.below b7)
      have HR7 : Hid (Ints w7 (.slice A7 T.length c7) T) := HR6.out.below b7
      clear b7
      obtain ⟨_, _, e1, hcc⟩ := HR7.out.form
      cases e1
      obtain ⟨g1, o1, rfl, q1⟩ := hcc m _ HTM.out
      clear hcc
      by_cases hr : resV n l all LK a < 0
      · have HNO : Hid (¬ WoOk (n : Int) l all xs) := fun h => by have := HV1.out.1 h; omega
        generalize resV n l all LK a = rv at *
        go_wp2_with fail
        go_ret2
        exact RetN.no HNO.out HE7.out
      · have HY := Lib.hid (HV1.out.2 (by omega))
        have HWD2 := Lib.hid (fun (bv lv : Int) (h : WoR n l all LK a n bv lv) => HWD.out bv lv h (by omega))
        clear HWD
        generalize resV n l all LK a = rv at *
        go_wp2_with fail
        go_loopg [9, 10, 14] n (fun g bv lv iv wr => ∃ (k : Nat) (b_ l_ : Int), k + g = n ∧ iv = .int .i64 (k : Int) ∧ bv = .int .i64 b_ ∧ lv = .int .i64 l_ ∧ Hid (WoR n l all LK a k b_ l_) ∧ Below w7.heap.size w7 wr)
        case atStart => exact ⟨0, -1, 0, by omega, rfl, rfl, rfl, HW0, Below.refl _ _⟩
        case round =>
          clear HW0 q1
          obtain ⟨k, b_, l_, hkg, rfl, rfl, rfl, hwo, hB⟩ := hrel
          have HB := Lib.hid hB
          have HBW := Lib.hid (btrans HE7.out hB)
          have HG := Lib.hid (HG7.out.below hB HG7.out.lt)
          obtain ⟨p0, p1, -, -⟩ := HG.out.two
          cases gk with
          | zero =>
            obtain rfl : k = n := by omega
            have HR := Lib.hid (HWD2.out b_ l_ hwo.out)
            clear hB
            go_wp2_with fail
            go_ret2
            rw [HV2.out, HR.out]
            exact RetN.yes HY.out HBW.out
          | succ g2 =>
            have hlt : k < n := by omega
            have hlt' : (k : Int) < (n : Int) := by omega
            have HHK := Lib.hid (HHS.out k)
            cases hbit : a.testBit k with
            | true =>
              have HN := Lib.hid (hwo.out.skip hbit)
              rw [hbit] at HHK
              clear hbit hB
              go_wp2_with fail
              refine (HHK.out wr HBW.out).mono ?_
              rintro e w' ⟨rfl, rfl⟩
              go_wp2_with fail
              go_roundg g2
              case measure => omega
              case rel => exact ⟨k + 1, b_, l_, by omega, by go_num, rfl, rfl, HN, HB.out⟩
            | false =>
              rw [hbit] at HHK
              obtain ⟨ur, gv, ov, -, hAv, cu, uu, hu⟩ := (HT7.out.below hB).row HTBM.out
              subst hAv
              obtain ⟨Au, cu_, rfl, -⟩ := hu.1
              obtain ⟨q, gu, ou, -, hAu, cq, hq⟩ := hu.row (HTRX.out k hlt hbit)
              subst hAu
              obtain ⟨Aq, cq_, rfl, -⟩ := hq.form
              have hkR : (k : Int) < (TR.length : Int) := by rw [HTRL.out]; omega
              have HAK := Lib.hid (HAF.out k _ _ wr hq (HR7.out.below hB))
              have hpl := HPL.out k
              by_cases hF : (ansF l all LK k a).length = 0
              · have HR := Lib.hid (HWL.out k b_ l_ hwo.out hlt hbit hF)
                have hd : decide (0 < (plL l all k a LK).length) = false := decide_eq_false (by omega)
                rw [hd] at HAK
                clear hbit hB hu hq hd hpl hF
                generalize plL l all k a LK = P at *
                generalize (if aftB T P = true then (-1 : Int) else aftN T P) = av at *
                go_wp2_with fail
                refine (HHK.out wr HBW.out).mono ?_
                rintro e w' ⟨rfl, rfl⟩
                go_wp2_with fail
                refine HAK.out.mono ?_
                rintro e w9 ⟨rfl, b9⟩
                have e9 := btrans HBW.out b9
                clear p0 p1 cu cq b9
                go_wp2_with fail
                go_ret2
                rw [HV2.out, HR.out]
                exact RetN.yes HY.out e9
              · have hlv := HLV.out k hF
                have hd : decide (0 < (plL l all k a LK).length) = true := decide_eq_true (by omega)
                rw [hd] at HAK
                have HTK := Lib.hid (fun h1 h2 => HWT.out k b_ l_ hwo.out hbit hF h1 h2)
                have HKP := Lib.hid (fun h1 => hwo.out.keep hbit hF h1)
                have hbw : -9223372036854775808 ≤ l_ ∧ l_ ≤ 9223372036854775807 := ⟨hwo.out.2.1, hwo.out.2.2.1⟩
                clear hbit hB hu hq hd hpl hF
                generalize plL l all k a LK = P at *
                generalize lvV n l all LK a (k : Int) = lv at *
                by_cases hab : aftB T P = true
                · rw [if_pos hab] at HAK hlv
                  have HN := Lib.hid (HKP.out (.inl hlv.1))
                  clear hab hlv
                  go_wp2_with fail
                  refine (HHK.out wr HBW.out).mono ?_
                  rintro e w' ⟨rfl, rfl⟩
                  go_wp2_with fail
                  refine HAK.out.mono ?_
                  rintro e w9 ⟨rfl, b9⟩
                  have HB9 := Lib.hid (btrans HB.out b9)
                  clear p0 p1 cu cq b9
                  go_wp2_with fail
                  go_roundg g2
                  case measure => omega
                  case rel => exact ⟨k + 1, b_, l_, by omega, by go_num, rfl, rfl, HN, HB9.out⟩
                · rw [if_neg hab] at HAK hlv
                  have hab2 : aftB T P = false := by simpa using hab
                  have hlt9 := hlv.2.2.2 hab2
                  obtain ⟨hle, hl0, -, -⟩ := hlv
                  rw [← hle] at HAK
                  have f1 : decide (0 ≤ lv) = true := decide_eq_true hl0
                  clear hab hab2 hle
                  by_cases h1 : b_ < 0
                  · have HN := Lib.hid (HTK.out hlt9 (.inl h1))
                    have f2 : decide (b_ < 0) = true := decide_eq_true h1
                    go_wp2_with fail
                    refine (HHK.out wr HBW.out).mono ?_
                    rintro e w' ⟨rfl, rfl⟩
                    go_wp2_with fail
                    refine HAK.out.mono ?_
                    rintro e w9 ⟨rfl, b9⟩
                    have HB9 := Lib.hid (btrans HB.out b9)
                    clear p0 p1 cu cq b9
                    go_wp2_with fail
                    go_roundg g2
                    case measure => omega
                    case rel => exact ⟨k + 1, (k : Int), lv, by omega, by go_num, rfl, rfl, HN, HB9.out⟩
                  · have f2 : decide (b_ < 0) = false := decide_eq_false h1
                    by_cases h2 : lv < l_
                    · have HN := Lib.hid (HTK.out hlt9 (.inr h2))
                      have f3 : decide (lv < l_) = true := decide_eq_true h2
                      go_wp2_with fail
                      refine (HHK.out wr HBW.out).mono ?_
                      rintro e w' ⟨rfl, rfl⟩
                      go_wp2_with fail
                      refine HAK.out.mono ?_
                      rintro e w9 ⟨rfl, b9⟩
                      have HB9 := Lib.hid (btrans HB.out b9)
                      clear p0 p1 cu cq b9
                      go_wp2_with fail
                      go_roundg g2
                      case measure => omega
                      case rel => exact ⟨k + 1, (k : Int), lv, by omega, by go_num, rfl, rfl, HN, HB9.out⟩
                    · have HN := Lib.hid (HKP.out (.inr ⟨by omega, by omega⟩))
                      have f3 : decide (lv < l_) = false := decide_eq_false h2
                      go_wp2_with fail
                      refine (HHK.out wr HBW.out).mono ?_
                      rintro e w' ⟨rfl, rfl⟩
                      go_wp2_with fail
                      refine HAK.out.mono ?_
                      rintro e w9 ⟨rfl, b9⟩
                      have HB9 := Lib.hid (btrans HB.out b9)
                      clear p0 p1 cu cq b9
                      go_wp2_with fail
                      go_roundg g2
                      case measure => omega
                      case rel => exact ⟨k + 1, b_, l_, by omega, by go_num, rfl, rfl, HN, HB9.out⟩
    · rw [okG_no (fun h => hso ((rises_set hgd).1 h))] at HST
      have HNO : Hid (¬ WoOk (n : Int) l all xs) := fun h => hso h.1
      clear hgd hso
      go_enter Tryd.func10, Tryd.ntmps10
      go_wp2_with fail
      refine (HGD.out).mono ?_
      rintro e w1 ⟨rfl, b1⟩
      have HE1 := Lib.hid (btrans HB0.out b1)
      have HG1 := Lib.hid (HG0.out.below b1 HG0.out.lt)
      clear p0 p1 b1
      obtain ⟨p0, p1, -, -⟩ := HG1.out.two
      go_wp2_with fail
      refine (HST.out w1 HE1.out).mono ?_
      rintro e w2 ⟨rfl, b2⟩
      have HE2 := Lib.hid (btrans HE1.out b2)
      have HG2 := Lib.hid (HG1.out.below b2 HG1.out.lt)
      clear p0 p1 b2
      go_wp2_with fail
      go_ret2
      exact RetN.no HNO.out HE2.out
  · rw [goodB_no hgd] at HGD
    have HNO : Hid (¬ WoOk s l all xs) := fun h => hgd h.1.1
    clear hgd
    go_enter Tryd.func10, Tryd.ntmps10
    go_wp2_with fail
    refine (HGD.out).mono ?_
    rintro e w1 ⟨rfl, b1⟩
    have HE1 := Lib.hid (btrans HB0.out b1)
    have HG1 := Lib.hid (HG0.out.below b1 HG0.out.lt)
    clear p0 p1 b1
    go_wp2_with fail
    go_ret2
    exact RetN.no HNO.out HE1.out
end Go.Proofs.YtdhbaegkogklgaaDoor.ups
