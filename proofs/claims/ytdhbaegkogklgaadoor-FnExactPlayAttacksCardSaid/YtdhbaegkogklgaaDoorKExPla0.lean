/- Guards: plays: mathematics. -/
import Derived.Test.YtdhbaegkogklgaaDoorK23
import Derived.Handy
import Derived.Test.YtdhbaegkogklgaaDoorK25
import Derived.Deep.DeepCutAuto
import Derived.Deep.RegionHeld3
import Derived.Deep.QuietTactic
import Derived.Test.YtdhbaegkogklgaaDoorK11
import Derived.Test.YtdhbaegkogklgaaDoorK10
import Derived.ArgAppend
import Derived.Maps.AppendAt
import Derived.Test.YtdhbaegkogklgaaDoorK24
namespace Go.Proofs.YtdhbaegkogklgaaDoor.ups
open Go.RowKit P2 words edges ints good adjs fns sets rets covs bitsI
set_option linter.unusedVariables false

/-- the sets after the answers to attacks -/
noncomputable def playN (n : Nat) (l : List Ed) (all : Bool) (L : List Nat) : Nat → List Int → List Nat
  | _, [] => []
  | a, x :: xs => if okG (0 ≤ x ∧ x < (n : Int)) = true then (if a.testBit x.toNat = true then a :: playN n l all L a xs else if (ansF l all L x.toNat a).length = 0 then [] else banV n l all L x.toNat a :: playN n l all L (banV n l all L x.toNat a) xs) else []
theorem play_out {n : Nat} {l : List Ed} {all : Bool} {L : List Nat} {a : Nat} {x : Int} {xs : List Int} (h : ¬ (0 ≤ x ∧ x < (n : Int))) : playN n l all L a (x :: xs) = [] := by
  show (if okG _ = true then _ else _) = _
  rw [okG_no h, if_neg (by decide)]
theorem play_in {n : Nat} {l : List Ed} {all : Bool} {L : List Nat} {a x : Nat} {xs : List Int} (h : x < n) : playN n l all L a ((x : Int) :: xs) = (if a.testBit x = true then a :: playN n l all L a xs else if (ansF l all L x a).length = 0 then [] else banV n l all L x a :: playN n l all L (banV n l all L x a) xs) := by
  show (if okG _ = true then _ else _) = _
  rw [okG_yes (by omega), if_pos rfl]; rfl
theorem play_len {n : Nat} {l : List Ed} {all : Bool} {L : List Nat} : ∀ (xs : List Int) (a : Nat), (playN n l all L a xs).length ≤ xs.length
  | [], a => Nat.le_refl _
  | x :: xs, a => by
    show (if okG _ = true then _ else _ : List Nat).length ≤ _
    split
    · split
      · simp only [List.length_cons]; have := play_len (n := n) (l := l) (all := all) (L := L) xs a; omega
      · split
        · simp
        · simp only [List.length_cons]; have := play_len (n := n) (l := l) (all := all) (L := L) xs (banV n l all L x.toNat a); omega
    · simp
/-- behind k attacks -/
def PlaR (n : Nat) (l : List Ed) (all : Bool) (L : List Nat) (ys : List Int) (a0 k a : Nat) (P : List Nat) : Prop := a ∈ L ∧ P.length = k ∧ (∀ c ∈ P, c ∈ L) ∧ playN n l all L a0 ys = P ++ playN n l all L a (ys.drop k)
theorem PlaR.zero {n : Nat} {l : List Ed} {all : Bool} {L : List Nat} {ys : List Int} {a0 : Nat} (h : a0 ∈ L) : PlaR n l all L ys a0 0 a0 [] := ⟨h, rfl, fun c hc => by simp at hc, rfl⟩
theorem drop_at {ys : List Int} {k : Nat} {x : Int} (h : ys[k]? = some x) : ys.drop k = x :: ys.drop (k + 1) := by
  obtain ⟨h1, h2⟩ := List.getElem?_eq_some_iff.1 h
  rw [List.drop_eq_getElem_cons h1, h2]
theorem PlaR.out {n : Nat} {l : List Ed} {all : Bool} {L : List Nat} {ys : List Int} {a0 k a : Nat} {P : List Nat} {x : Int} (h : PlaR n l all L ys a0 k a P) (hy : ys[k]? = some x) (hx : ¬ (0 ≤ x ∧ x < (n : Int))) : playN n l all L a0 ys = P := by
  rw [h.2.2.2, drop_at hy, play_out hx, List.append_nil]
theorem PlaR.done {n : Nat} {l : List Ed} {all : Bool} {L : List Nat} {ys : List Int} {a0 a : Nat} {P : List Nat} (h : PlaR n l all L ys a0 ys.length a P) : playN n l all L a0 ys = P := by
  rw [h.2.2.2, List.drop_eq_nil_of_le (Nat.le_refl _)]
  show P ++ [] = P
  rw [List.append_nil]
theorem PlaR.none {n : Nat} {l : List Ed} {all : Bool} {L : List Nat} {ys : List Int} {a0 k a x : Nat} {P : List Nat} (h : PlaR n l all L ys a0 k a P) (hy : ys[k]? = some (x : Int)) (hx : x < n) (hb : a.testBit x = false) (hF : (ansF l all L x a).length = 0) : playN n l all L a0 ys = P := by
  rw [h.2.2.2, drop_at hy, play_in hx, if_neg (by rw [hb]; decide), if_pos hF, List.append_nil]
theorem PlaR.has {n : Nat} {l : List Ed} {all : Bool} {L : List Nat} {ys : List Int} {a0 k a x : Nat} {P : List Nat} (h : PlaR n l all L ys a0 k a P) (hy : ys[k]? = some (x : Int)) (hx : x < n) (hb : a.testBit x = true) : PlaR n l all L ys a0 (k + 1) a (P ++ [a]) := by
  refine ⟨h.1, by rw [List.length_append, h.2.1]; rfl, fun c hc => ?_, ?_⟩
  · rcases List.mem_append.1 hc with hc | hc
    · exact h.2.2.1 c hc
    · rw [List.mem_singleton.1 hc]; exact h.1
  · rw [h.2.2.2, drop_at hy, play_in hx, if_pos hb, List.append_assoc]; rfl
theorem PlaR.go {n : Nat} {l : List Ed} {all : Bool} {L : List Nat} {ys : List Int} {a0 k a x : Nat} {P : List Nat} (h : PlaR n l all L ys a0 k a P) (hy : ys[k]? = some (x : Int)) (hx : x < n) (hb : a.testBit x = false) (hF : (ansF l all L x a).length ≠ 0) : PlaR n l all L ys a0 (k + 1) (banV n l all L x a) (P ++ [banV n l all L x a]) := by
  have hm := (ansF_mem (banV_mem (n := n) (l := l) (all := all) (L := L) (x := x) (a := a) (fun e => hF (by rw [e]; rfl)))).1
  refine ⟨hm, by rw [List.length_append, h.2.1]; rfl, fun c hc => ?_, ?_⟩
  · rcases List.mem_append.1 hc with hc | hc
    · exact h.2.2.1 c hc
    · rw [List.mem_singleton.1 hc]; exact hm
  · rw [h.2.2.2, drop_at hy, play_in hx, if_neg (by rw [hb]; decide), if_neg hF, List.append_assoc]; rfl
end Go.Proofs.YtdhbaegkogklgaaDoor.ups

/- Guards: the contract of the program's PlayAttacks. -/
namespace Go.Proofs.YtdhbaegkogklgaaDoor.ups
open Go.RowKit Go.Maps P2 words edges ints owns good adjs fns sets rets covs bags bitsI func lists least near grid balls
set_option linter.unusedVariables false

/-- a set and at most so many attacks -/
def PlaOk (s : Int) (l : List Ed) (xs ys : List Int) : Prop := SetOk s l xs ∧ ys.length ≤ 30
noncomputable def plaN (s : Int) (l : List Ed) (all : Bool) (xs ys : List Int) : List Nat := playN s.toNat l all (setsK s.toNat xs.length) (codeL xs) ys
theorem cellsU_appP (l m : List Nat) : cellsU (l ++ m) = cellsU l ++ cellsU m := by simp [cellsU]
set_option maxHeartbeats 8000000 in
set_option maxRecDepth 100000 in
theorem implPla_any (s : Int) (all : Bool) (v u t : Value) (l : List Ed) (xs ys : List Int) (w : World) (hE : Env w) (h : Edges w v l) (hl : l.length ≤ 1048576) (hu : Ints w u xs) (hxl : xs.length ≤ 1048576) (ht : Ints w t ys) (hyl : ys.length ≤ 1048576) :
    Calls Tryd.prog 22 #[.agg #[.int .i64 s, v], u, t, .bool all] w (RetGr w (PlaOk s l xs ys) (rowN (plaN s l all xs ys))) := by
  have hmf : ∀ (fn : Fn) (first cap : Array Value) (w : World), (Instr.makeFunc fn first cap).run Tryd.prog w = .ok (.func fn first cap) w := fun _ _ _ _ => rfl
  obtain ⟨i0, hi, hz0, hz1, hz2⟩ := info_parts infoU
  obtain ⟨A, c, rfl, -⟩ := h.form
  obtain ⟨A2, c2, rfl, -⟩ := hu.form
  obtain ⟨At, ct, rfl, -⟩ := ht.form
  have H := Lib.hid h
  have HU := Lib.hid hu
  have HY := Lib.hid ht
  have HEN := Lib.hid hE
  have b0 : Below w.heap.size w (w.alloc (.cells #[.int .i64 s, .slice A l.length c] 29)) := (Below.refl _ _).alloc (Nat.le_refl _) _
  have g0 := Blk.new w 29 #[.int .i64 s, .slice A l.length c]
  obtain ⟨p0, p1, -, -⟩ := g0.two
  have HS := Lib.hid (hasSet_any s (.slice A l.length c) (.slice A2 xs.length c2) l xs _ (h.below b0) hl (hu.below b0) hxl)
  have HB0 := Lib.hid b0
  have HG0 := Lib.hid g0
  clear h hu b0 g0 hE ht
  by_cases hok : SetOk s l xs
  · rw [okG_yes hok] at HS
    by_cases hys : ys.length ≤ 30
    · have hY30 : decide (30 < ys.length) = false := decide_eq_false (by omega)
      have hY31 : ¬ ((30 : Int) < (ys.length : Int)) := by omega
      have HOK : Hid (PlaOk s l xs ys) := ⟨hok, hys⟩
      have h0 := hok.1.1
      have h8 := hok.1.2.1
      obtain ⟨n, rfl⟩ : ∃ n : Nat, s = (n : Int) := ⟨s.toNat, by omega⟩
      have hn : n ≤ 8 := by omega
      have hk8 : xs.length ≤ 8 := Nat.le_trans (asc_len hok.2.2 hok.2.1) hn
      have HWI := Lib.hid (fun (W : World) (hW : Below w.heap.size w W) => watchIn_any n xs.length all (.slice A l.length c) l W (H.out.below hW) hl hok.1 hn hk8)
      have HBO := Lib.hid (fun (W : World) (hW : Below w.heap.size w W) => bitsOf_any (.slice A2 xs.length c2) xs W (HU.out.below hW) hxl (fun x hx => by have := hok.2.1 x hx; omega))
      have hsl := setsK_len hn hk8
      have ha2 := code_set hok
      have haL : codeL xs ∈ setsK n xs.length := (setsK_mem hn hk8).2 ⟨ha2, set_onesM hn hok⟩
      have HL2 : Hid (∀ c ∈ setsK n xs.length, c < 2 ^ n) := fun c hc => ((setsK_mem hn hk8).1 hc).1
      have HL8 : Hid (∀ c ∈ setsK n xs.length, c < 256) := fun c hc => Nat.lt_of_lt_of_le (HL2.out c hc) (pow_le hn)
      have HRE := Lib.hid (fun (W : World) (vc vs : Value) (hW : Below w.heap.size w W) (hc : Nums W vc (clos l n)) (hs : Nums W vs (setsK n xs.length)) => resistances_any n all vc vs (setsK n xs.length) l W (HEN.out.next hW) hc hs HL2.out hsl hok.1 hn)
      have HBA := Lib.hid (fun (a y : Nat) (W : World) (vc vs : Value) (b km : Nat) (D : DataW Unit) (ha : a ∈ setsK n xs.length) (hy : y < n) (hW : Below w.heap.size w W) (hc : Nums W vc (clos l n)) (hs : Nums W vs (setsK n xs.length)) (hm : W.ownsMap Tryd.prog 70 (plainElem Tryd.prog 3) b km D) (hD : ∀ c ∈ setsK n xs.length, AtU D c (resP n l all (setsK n xs.length) c)) =>
        bestAnswer_any n a y b km all vc vs (setsK n xs.length) l D W (HEN.out.next hW) hc hs HL2.out hsl hok.1 hn (HL2.out a ha) (by omega) hm hD)
      have HN := Lib.hid (fun (x : Int) (W : World) (hW : Below w.heap.size w W) => hasNodes_any (n : Int) (.slice A l.length c) (.slice (some ⟨W.heap.size, 0, none⟩) 1 1) l [x] (W.alloc (.cells #[.int .i64 x] 3)) (H.out.below (hW.alloc hW.size _)) hl (one_reads (Blk.new W 3 #[.int .i64 x])) (by simp))
      have HNI : Hid (∀ x : Int, (0 ≤ x ∧ x < (n : Int)) → nodesB (n : Int) l [x] = true) := fun x hx => nodesB_iff.2 ⟨hok.1, fun y hy => by rw [List.mem_singleton.1 hy]; exact hx⟩
      have HNO : Hid (∀ x : Int, ¬ (0 ≤ x ∧ x < (n : Int)) → nodesB (n : Int) l [x] = false) := fun x hx => nodesB_no fun h => hx (h.2 x (by simp))
      have HV : Hid (plaN (n : Int) l all xs ys = playN n l all (setsK n xs.length) (codeL xs) ys) := by show _ = _; unfold plaN; rw [Int.toNat_natCast]
      have HR0 : Hid (PlaR n l all (setsK n xs.length) ys (codeL xs) 0 (codeL xs) []) := PlaR.zero haL
      clear hok haL ha2
      generalize setsK n xs.length = L at *
      generalize codeL xs = a0 at *
      go_enter Tryd.func22, Tryd.ntmps22
      go_wp2_with fail
      refine HS.out.mono ?_
      rintro e w1 ⟨rfl, b1⟩
      have HE1 := Lib.hid (btrans HB0.out b1)
      have HG1 := Lib.hid (HG0.out.below b1 HG0.out.lt)
      clear p0 p1 b1
      obtain ⟨p0, p1, -, -⟩ := HG1.out.two
      go_wp2_with fail
      refine (HWI.out w1 HE1.out).mono ?_
      rintro e w2 ⟨A3, c3, A4, c4, rfl, i3, o4, b2⟩
      have HE2_ := Lib.hid (btrans HE1.out b2)
      have HG2_ := Lib.hid (HG1.out.below b2 HG1.out.lt)
      clear p0 p1
      have HI3 := Lib.hid i3
      have HO4 := Lib.hid o4
      clear i3 o4 b2
      unfold watV
      go_wp2_with fail
      refine (HBO.out w2 HE2_.out).mono ?_
      rintro e w' ⟨rfl, rfl⟩
      obtain ⟨W2, hW2⟩ : ∃ W2, W2 = w2.alloc (.cells #[.slice A3 (clos l n).length c3, .func (.func (ruleF all)) #[] #[], .slice A4 L.length c4] 67) := ⟨_, rfl⟩
      have d2 : Below w2.heap.size w2 W2 := by rw [hW2]; exact (Below.refl _ _).alloc (Nat.le_refl _) _
      have HE2 := Lib.hid (btrans HE2_.out d2)
      have HK2 : Hid (Blk W2 w2.heap.size 67 #[.slice A3 (clos l n).length c3, .func (.func (ruleF all)) #[] #[], .slice A4 L.length c4]) := by show Blk _ _ _ _; rw [hW2]; exact Blk.new _ _ _
      have HG2 := Lib.hid (HG2_.out.below d2 HG2_.out.lt)
      have HN2 : Hid (Nums W2 (.slice A4 L.length c4) L) := (show Nums w2 _ _ from Reads.of_own HO4.out).below d2
      have HC2 := Lib.hid (HI3.out.below d2)
      have HRE2 := Lib.hid (HRE.out W2 _ _ HE2.out HC2.out HN2.out)
      have HW2 := Lib.hid hW2
      unfold watV at HRE2 HBA
      clear d2 hW2
      go_wp2_with fail
      rw [← HW2.out]
      refine HRE2.out.mono ?_
      rintro e w3 ⟨b, km, D, rfl, hbw, hmp, hat, b3⟩
      have HE3 := Lib.hid (btrans HE2.out b3)
      have HM3 := Lib.hid hmp
      have HK3 := Lib.hid (HK2.out.below b3 HK2.out.lt)
      have HG3 := Lib.hid (HG2.out.below b3 HG2.out.lt)
      have HN3 := Lib.hid (HN2.out.below b3)
      have HC3 := Lib.hid (HC2.out.below b3)
      have HATT := Lib.hid hat
      have hsz3 := HE3.out.size
      clear hmp hat b3 hbw HRE2 HRE HWI HBO HS
      go_wp2_with fail
      go_loopg [11, 13, 38] ys.length (fun g av pv iv wr => ∃ (k a : Nat) (P : List Nat) (pw : Value), pw = pv ∧ k + g = ys.length ∧ iv = .int .i64 (k : Int) ∧ av = .int .u64 (a : Int) ∧ Hid (PlaR n l all L ys a0 k a P) ∧ wr.ownsRow w3.heap.size 70 1 pw P.length (cellsU P) ∧ Below w3.heap.size w3 wr)
      case atStart => exact ⟨0, a0, [], _, rfl, by omega, rfl, rfl, HR0, World.ownsRow_nil _ _ _ _, Below.refl _ _⟩
      case round =>
        clear HR0
        obtain ⟨k, a, P, pw, rfl, hkg, rfl, rfl, hpr, hrow, hB⟩ := hrel
        obtain ⟨A5, c5, rfl⟩ := own_form hrow
        have HB := Lib.hid hB
        have HE := Lib.hid (btrans HE3.out hB)
        have HG := Lib.hid (HG3.out.below hB HG3.out.lt)
        have HROW := Lib.hid hrow
        have HPL : Hid (P.length = k) := hpr.out.2.1
        have HP8 : Hid (∀ c ∈ P, c < 256) := fun c hc => HL8.out c (hpr.out.2.2.1 c hc)
        obtain ⟨p0, p1, -, -⟩ := HG.out.two
        have HRS := Lib.hid (fun (W : World) (hW : Below wr.heap.size wr W) => resultsNd_any (.slice A5 P.length c5) P W (show Nums W _ _ from Reads.of_own (own_below HROW.out hW)) HP8.out (by have := HPL.out; omega))
        cases gk with
        | zero =>
          obtain rfl : k = ys.length := by omega
          have HR := Lib.hid (hpr.out.done)
          clear hrow hB
          go_wp2_with fail
          refine (HRS.out wr (Below.refl _ _)).mono ?_
          rintro e w9 ⟨A9, c9, us, rfl, o9, b9⟩
          go_wp2_with fail
          go_ret2
          rw [HV.out, HR.out, ← rowN_len P]
          exact RetGr.yes HOK.out (o9.base HE.out.size) (btrans HE.out b9)
        | succ g2 =>
          have hlt : k < ys.length := by omega
          have hlt' : (k : Int) < (ys.length : Int) := by omega
          obtain ⟨x, hx⟩ : ∃ x, ys[k]? = some x := ⟨_, List.getElem?_eq_getElem hlt⟩
          obtain ⟨_, _, e1, hcc⟩ := (show Ints wr (.slice At ys.length ct) ys from HY.out.below HE.out).form
          cases e1
          obtain ⟨g1, o1, rfl, q1⟩ := hcc k _ hx
          have HN1 := Lib.hid (HN.out x wr HE.out)
          by_cases hxn : 0 ≤ x ∧ x < (n : Int)
          · rw [HNI.out x hxn] at HN1
            obtain ⟨y, rfl⟩ : ∃ y : Nat, x = (y : Int) := ⟨x.toNat, by omega⟩
            have hy : y < n := by omega
            have hy8 : y ≤ 8 := by omega
            have ha8 := HL8.out a hpr.out.1
            have HHA := Lib.hid (fun (W : World) => has_any a y W (by omega) hy8)
            cases hbit : a.testBit y with
            | true =>
              have HN9 := Lib.hid (hpr.out.has hx hy hbit)
              rw [hbit] at HHA
              clear hbit hrow hB hcc hx hpr
              go_wp2_with fail
              refine HN1.out.mono ?_
              rintro e w4 ⟨rfl, b4_⟩
              have b4 : Below wr.heap.size wr w4 := btrans ((Below.refl _ _).alloc (Nat.le_refl _) _) b4_
              have HB4 := Lib.hid b4
              clear p0 p1 q1 b4_ b4
              go_wp2_with fail
              refine (HHA.out w4).mono ?_
              rintro e w' ⟨rfl, rfl⟩
              have HR5 := own_below HROW.out HB4.out
              have hs5 := HB4.out.size
              have hs6 := HB.out.size
              have hz : w3.heap.size ≤ w4.heap.size := by omega
              have hpl := HPL.out
              have hP30 : P.length ≤ 30 := by omega
              clear hpl
              go_wp2_with (at_builtin; refine wpList_append_own _ rfl _ _ 63 rfl w3.heap.size 70 i0 (.int .u64 0) 1 8 Tryd.underlying63 hi hz0 hz1 hz2 rfl (by decide) _ _ _ rfl (HR5.alloc _) ⟨w4.heap.size, 0, none⟩ 1 1 [.int .u64 (a : Int)] rfl rfl (cell_one_new _ _ _) (fun x hx => by simp at hx; subst hx; rfl) (by unfold maxLen; omega) (by omega) (by simp; omega) ?_; intro v8 w8 hown8 hgrow8 _)
              have HR8 : Hid (w8.ownsRow w3.heap.size 70 1 v8 (P ++ [a]).length (cellsU (P ++ [a]))) := by show World.ownsRow _ _ _ _ _ _ _; rw [cellsU_appP, List.length_append]; exact hown8
              have HB8 := Lib.hid (((btrans HB.out HB4.out).alloc hz _).grown hgrow8 (by simp; omega) (fun j e => (HR5.lt j e).1))
              clear hown8 hgrow8 HR5
              go_roundg g2
              case measure => omega
              case rel => exact ⟨k + 1, a, P ++ [a], v8, rfl, by omega, by go_num, rfl, HN9, HR8.out, HB8.out⟩
            | false =>
              rw [hbit] at HHA
              by_cases hF : (ansF l all L y a).length = 0
              · have HR := Lib.hid (hpr.out.none hx hy hbit hF)
                have HB1 := Lib.hid (fun (W : World) (hW : Below w3.heap.size w3 W) => HBA.out a y W _ _ b km D hpr.out.1 hy (btrans HE3.out hW) (HC3.out.below hW) (HN3.out.below hW) (HM3.out.kept (row := none) (gof hW none) (by simp)) HATT.out)
                have hd : decide (0 < (ansF l all L y a).length) = false := decide_eq_false (by omega)
                rw [if_pos hF, hd] at HB1
                clear hbit hrow hB hcc hx hpr hd hF
                go_wp2_with fail
                refine HN1.out.mono ?_
                rintro e w4 ⟨rfl, b4_⟩
                have b4 : Below wr.heap.size wr w4 := btrans ((Below.refl _ _).alloc (Nat.le_refl _) _) b4_
                have HB4 := Lib.hid b4
                obtain ⟨r0, r1, r2⟩ := blkW (HK3.out.below (btrans HB.out b4) HK3.out.lt)
                clear p0 p1 q1 b4_ b4
                go_wp2_with fail
                refine (HHA.out w4).mono ?_
                rintro e w' ⟨rfl, rfl⟩
                go_wp2_with fail
                refine (HB1.out w4 (btrans HB.out HB4.out)).mono ?_
                rintro e w5 ⟨rfl, b5⟩
                have HB5 := Lib.hid (btrans HB4.out b5)
                clear r0 r1 r2 b5
                go_wp2_with fail
                refine (HRS.out w5 HB5.out).mono ?_
                rintro e w9 ⟨A9, c9, us, rfl, o9, b9⟩
                have e5 := btrans HE.out HB5.out
                go_wp2_with fail
                first | go_ret2 | (rw [Exit.noGoto_ret]; go_ret2)
                rw [HV.out, HR.out, ← rowN_len P]
                exact RetGr.yes HOK.out (o9.base e5.size) (btrans e5 b9)
              · have HN9 := Lib.hid (hpr.out.go hx hy hbit hF)
                have HB1 := Lib.hid (fun (W : World) (hW : Below w3.heap.size w3 W) => HBA.out a y W _ _ b km D hpr.out.1 hy (btrans HE3.out hW) (HC3.out.below hW) (HN3.out.below hW) (HM3.out.kept (row := none) (gof hW none) (by simp)) HATT.out)
                have hd : decide (0 < (ansF l all L y a).length) = true := decide_eq_true (by omega)
                rw [if_neg hF, hd] at HB1
                clear hbit hrow hB hcc hx hpr hd hF
                generalize banV n l all L y a = bv at *
                go_wp2_with fail
                refine HN1.out.mono ?_
                rintro e w4 ⟨rfl, b4_⟩
                have b4 : Below wr.heap.size wr w4 := btrans ((Below.refl _ _).alloc (Nat.le_refl _) _) b4_
                have HB4 := Lib.hid b4
                obtain ⟨r0, r1, r2⟩ := blkW (HK3.out.below (btrans HB.out b4) HK3.out.lt)
                clear p0 p1 q1 b4_ b4
                go_wp2_with fail
                refine (HHA.out w4).mono ?_
                rintro e w' ⟨rfl, rfl⟩
                go_wp2_with fail
                refine (HB1.out w4 (btrans HB.out HB4.out)).mono ?_
                rintro e w5 ⟨rfl, b5⟩
                have HB5 := Lib.hid (btrans HB4.out b5)
                clear r0 r1 r2 b5
                have HR5 := own_below HROW.out HB5.out
                have hs5 := HB5.out.size
                have hs6 := HB.out.size
                have hz : w3.heap.size ≤ w5.heap.size := by omega
                have hpl := HPL.out
                have hP30 : P.length ≤ 30 := by omega
                clear hpl
                go_wp2_with (at_builtin; refine wpList_append_own _ rfl _ _ 63 rfl w3.heap.size 70 i0 (.int .u64 0) 1 8 Tryd.underlying63 hi hz0 hz1 hz2 rfl (by decide) _ _ _ rfl (HR5.alloc _) ⟨w5.heap.size, 0, none⟩ 1 1 [.int .u64 (bv : Int)] rfl rfl (cell_one_new _ _ _) (fun x hx => by simp at hx; subst hx; rfl) (by unfold maxLen; omega) (by omega) (by simp; omega) ?_; intro v8 w8 hown8 hgrow8 _)
                have HR8 : Hid (w8.ownsRow w3.heap.size 70 1 v8 (P ++ [bv]).length (cellsU (P ++ [bv]))) := by show World.ownsRow _ _ _ _ _ _ _; rw [cellsU_appP, List.length_append]; exact hown8
                have HB8 := Lib.hid (((btrans HB.out HB5.out).alloc hz _).grown hgrow8 (by simp; omega) (fun j e => (HR5.lt j e).1))
                clear hown8 hgrow8 HR5
                go_roundg g2
                case measure => omega
                case rel => exact ⟨k + 1, bv, P ++ [bv], v8, rfl, by omega, by go_num, rfl, HN9, HR8.out, HB8.out⟩
          · rw [HNO.out x hxn] at HN1
            have HR := Lib.hid (hpr.out.out hx hxn)
            clear hrow hB hcc hx hpr
            go_wp2_with fail
            refine HN1.out.mono ?_
            rintro e w4 ⟨rfl, b4_⟩
            have b4 : Below wr.heap.size wr w4 := btrans ((Below.refl _ _).alloc (Nat.le_refl _) _) b4_
            have HB4 := Lib.hid b4
            clear p0 p1 q1 b4_ b4
            go_wp2_with fail
            refine (HRS.out w4 HB4.out).mono ?_
            rintro e w9 ⟨A9, c9, us, rfl, o9, b9⟩
            have e5 := btrans HE.out HB4.out
            go_wp2_with fail
            first | go_ret2 | (rw [Exit.noGoto_ret]; go_ret2)
            rw [HV.out, HR.out, ← rowN_len P]
            exact RetGr.yes HOK.out (o9.base e5.size) (btrans e5 b9)
    · have hY30 : decide (30 < ys.length) = true := decide_eq_true (by omega)
      have hY31 : (30 : Int) < (ys.length : Int) := by omega
      have HNO : Hid (¬ PlaOk s l xs ys) := fun h => hys h.2
      clear hok
      go_enter Tryd.func22, Tryd.ntmps22
      go_wp2_with fail
      refine HS.out.mono ?_
      rintro e w1 ⟨rfl, b1⟩
      have HE1 := Lib.hid (btrans HB0.out b1)
      clear p0 p1 b1
      go_wp2_with fail
      go_ret2
      exact RetGr.nil HNO.out HE1.out
  · rw [okG_no hok] at HS
    have HNO : Hid (¬ PlaOk s l xs ys) := fun h => hok h.1
    clear hok
    go_enter Tryd.func22, Tryd.ntmps22
    go_wp2_with fail
    refine HS.out.mono ?_
    rintro e w1 ⟨rfl, b1⟩
    have HE1 := Lib.hid (btrans HB0.out b1)
    clear p0 p1 b1
    go_wp2_with fail
    go_ret2
    exact RetGr.nil HNO.out HE1.out
end Go.Proofs.YtdhbaegkogklgaaDoor.ups

/- A table that begins as an empty literal and grows behind other things. -/
namespace Go.Proofs.YtdhbaegkogklgaaDoor.ups
open Go.RowKit P2 words edges ints owns grid gridl
set_option linter.unusedVariables false

/-- empty as it was made (block P of the call's own, base B), or the own of what comes from D on -/
def OutR (w : World) (B D P : Nat) (ov : Value) (os : List Value) (O : List (List Int)) : Prop :=
  (O = [] ∧ os = [] ∧ ov = .slice (some ⟨P, 0, none⟩) 0 0 ∧ w.ownsRow B 25 1 (.slice (some ⟨P, 0, none⟩) 0 0) 0 []) ∨ (O ≠ [] ∧ OwnG w D ov os O)
theorem OutR.own {w : World} {B D P : Nat} {ov : Value} {os : List Value} {O : List (List Int)} (h : OutR w B D P ov os O) (hB : B ≤ D) : OwnG w B ov os O := by
  rcases h with ⟨rfl, rfl, rfl, h⟩ | ⟨_, h⟩
  · exact ⟨h, fun i u r hu => by simp at hu, fun i j u u' k _ hu => by simp at hu⟩
  · exact h.base hB
theorem OutR.form {w : World} {B D P : Nat} {ov : Value} {os : List Value} {O : List (List Int)} (h : OutR w B D P ov os O) : ∃ A c, ov = .slice A O.length c := by
  rcases h with ⟨rfl, rfl, rfl, h⟩ | ⟨_, h⟩
  · exact ⟨_, _, rfl⟩
  · exact own_form h.1
theorem OutR.below {w w' : World} {B D P : Nat} {ov : Value} {os : List Value} {O : List (List Int)} (h : OutR w B D P ov os O) (hb : Below w.heap.size w w') : OutR w' B D P ov os O := by
  rcases h with ⟨h1, h2, h3, h⟩ | ⟨h1, h⟩
  · exact .inl ⟨h1, h2, h3, own_below h hb⟩
  · exact .inr ⟨h1, h.below hb⟩
theorem wpList_append_out {P : Program} (hP : P = Tryd.prog) {W w6 : World} {ops : Array Oper} {rest : List Oper} {o : Oper} {a : Act} {Q : Exit → Act → World → Prop} (hgd : o.guard = none) (s x : Operand)
    (ho : o.op = .call { callee := .builtin .append, args := #[s, x], argTypes := #[40, 40] })
    {B D R : Nat} {ov u : Value} {os : List Value} {O : List (List Int)} {r : List Int} (hs : a.eval s = ov) (hout : OutR W B D R ov os O) (hOl : O.length ≤ 1048576) (hD : D ≤ W.heap.size) (b6 : Below W.heap.size W w6) (hu : w6.ownsRow W.heap.size 3 1 u r.length (cellsI r)) (h1 : u.oneCell' = true)
    (hx : a.eval x = .slice (some ⟨w6.heap.size, 0, none⟩) 1 1)
    (h : ∀ v' w', OutR w' B D R v' (os ++ [u]) (O ++ [r]) → Below D W w' → wpList P ops Q rest (a.put o.dst v') w') : wpList P ops Q (o :: rest) a (w6.alloc (.cells #[u] 25)) := by
  subst hP
  obtain ⟨i1, hi1, hy0, hy1, hy2⟩ := info_parts infoRow
  have hz6 := b6.size
  rcases hout with ⟨rfl, rfl, rfl, hown⟩ | ⟨hne, hG⟩
  · refine wpList_append_grows _ hgd s x _ ho 25 i1 (.slice none 0 0) 1 24 Tryd.underlying40 hi1 hy0 hy1 hy2 rfl (by decide) _ 0 0 [] hs (fun e => by simp at e) rfl (fun b _ j z hz => by simp at hz) ⟨w6.heap.size, 0, none⟩ 1 1 [u] hx rfl (cell_one_new _ _ _) (fun z hz => by simp at hz; subst hz; exact h1) (by omega) (by unfold maxLen; omega) (by omega) fun v' w' hown' hgrow => h v' w' (.inr ⟨by simp, ?_⟩) ?_
    · have hz9 : D ≤ (w6.alloc (.cells #[u] 25)).heap.size := by rw [World.size_alloc]; omega
      refine ⟨own_base hown' hz9, fun i y q hy hq => ?_, fun i j y y' k hij hy hy' => ?_⟩
      · have hi0 : i = 0 := by
          have := (List.getElem?_eq_some_iff.1 hy).1
          simp at this; omega
        subst hi0
        simp at hy hq
        subst hy; subst hq
        exact own_base ((hu.alloc _).kept hgrow (by cases hh : u.ownBlock with | none => exact .inl rfl | some k => exact .inr (by simp))) hD
      · have := (List.getElem?_eq_some_iff.1 hy').1
        simp at this; omega
    · exact ((b6.mono hD).alloc (by omega) (.cells #[u] 25)).grown hgrow (by rw [World.size_alloc]; omega) (fun j e => by simp at e)
  · have hown0 := (hG.below b6).1
    refine wpList_append_own _ hgd s x _ ho D 25 i1 (.slice none 0 0) 1 24 Tryd.underlying40 hi1 hy0 hy1 hy2 rfl (by decide) _ _ _ hs (hown0.alloc _) ⟨w6.heap.size, 0, none⟩ 1 1 [u] hx rfl (cell_one_new _ _ _) (fun z hz => by simp at hz; subst hz; exact h1) (by unfold maxLen; omega) (by omega) (by rw [World.size_alloc]; omega) fun v' w' hown' hgrow _ => h v' w' (.inr ⟨by simp, OwnG.push hG b6 hD hu hown' rfl hgrow⟩) ?_
    exact ((b6.mono hD).alloc (by omega) (.cells #[u] 25)).grown hgrow (by rw [World.size_alloc]; omega) (fun j e => (hown0.lt j e).1)
end Go.Proofs.YtdhbaegkogklgaaDoor.ups

/- Guards: the contract of the model's PlayAttacks. -/
namespace Go.Proofs.YtdhbaegkogklgaaDoor.ups
open Go.RowKit P2 words edges ints owns good adjs fns sets rets covs bags balls bitsI func lists times apps gridr grid trip minmax
set_option linter.unusedVariables false

theorem rowN_snoc (P : List Nat) (a : Nat) : rowN (P ++ [a]) = rowN P ++ [ndN a] := by simp [rowN]
set_option maxHeartbeats 8000000 in
set_option maxRecDepth 100000 in
theorem specPla_any (s : Int) (all : Bool) (v u t : Value) (l : List Ed) (xs ys : List Int) (w : World) (h : Edges w v l) (hl : l.length ≤ 1048576) (hu : Ints w u xs) (hxl : xs.length ≤ 1048576) (ht : Ints w t ys) (hyl : ys.length ≤ 1048576) (hs1 : -9223372036854775808 ≤ s) (hs2 : s ≤ 9223372036854775807) :
    Calls Tryd.prog 21 #[.agg #[.int .i64 s, v], u, t, .bool all] w (RetGr w (PlaOk s l xs ys) (rowN (plaN s l all xs ys))) := by
  obtain ⟨A, c, rfl, -⟩ := h.form
  obtain ⟨A2, c2, rfl, -⟩ := hu.form
  obtain ⟨At, ct, rfl, -⟩ := ht.form
  have H := Lib.hid h
  have HU := Lib.hid hu
  have HY := Lib.hid ht
  have b0 : Below w.heap.size w ((w.alloc (.cells #[.int .i64 s, .slice A l.length c] 29)).alloc (.cells #[] 25)) := ((Below.refl _ _).alloc (Nat.le_refl _) _).alloc (by simp) _
  have g0 := (Blk.new w 29 #[.int .i64 s, .slice A l.length c]).alloc (.cells #[] 25)
  have o0 := own_new0 (w.alloc (.cells #[.int .i64 s, .slice A l.length c] 29)) 25 1
  rw [World.size_alloc] at o0
  obtain ⟨p0, p1, -, -⟩ := g0.two
  have HGD := Lib.hid (l2Good_any s _ l _ (h.below b0) hl hs1 hs2)
  have HB0 := Lib.hid b0
  have HG0 := Lib.hid g0
  have HO0 := Lib.hid (own_base (B' := w.heap.size) o0 (by omega))
  clear h hu b0 g0 o0 ht
  by_cases hgd : P2.Good s l
  · rw [goodB_yes hgd] at HGD
    have h0 := hgd.1
    have h8 := hgd.2.1
    obtain ⟨n, rfl⟩ : ∃ n : Nat, s = (n : Int) := ⟨s.toNat, by omega⟩
    have hn : n ≤ 8 := by omega
    have HST := Lib.hid (fun (W : World) (hW : Below w.heap.size w W) => l2Set_any (n : Int) (.slice A l.length c) (.slice A2 xs.length c2) l xs W (HU.out.below hW) hxl h0 h8)
    by_cases hso : SetOk (n : Int) l xs
    · rw [okG_yes ((rises_set hgd).2 hso)] at HST
      by_cases hys : ys.length ≤ 30
      · have hq_ := hys
        have hY30 : decide (30 < ys.length) = false := decide_eq_false (by omega)
        have hY31 : ¬ ((30 : Int) < (ys.length : Int)) := by omega
        have HOK : Hid (PlaOk (n : Int) l xs ys) := ⟨hso, hys⟩
        have hk8 : xs.length ≤ 8 := Nat.le_trans (asc_len hso.2.2 hso.2.1) hn
        have hxa := set_nd hn hso
        have HV : Hid (plaN (n : Int) l all xs ys = playN n l all (setsK n xs.length) (codeL xs) ys) := by show _ = _; unfold plaN; rw [Int.toNat_natCast]
        obtain ⟨m, hm, hfst⟩ := place_of hn hk8 (code_set hso) (set_onesM hn hso)
        have HND := Lib.hid (fun (x : Int) (W : World) (hW : Below w.heap.size w W) => l2Node_any (n : Int) x (.slice A l.length c) l W (H.out.below hW) h0 h8)
        have HSE := Lib.hid (fun (W : World) => l10Sets_any n xs.length (.slice A l.length c) W hn hk8)
        have hsl := setsK_len hn hk8
        have HM2 : Hid (∀ c ∈ setsK n xs.length, c < 2 ^ n ∧ onesN c = xs.length) := fun c hc => (setsK_mem hn hk8).1 hc
        have HL8 : Hid (∀ c ∈ setsK n xs.length, c < 256) := fun c hc => Nat.lt_of_lt_of_le (HM2.out c hc).1 (pow_le hn)
        have HTB := Lib.hid (fun (t : Value) (us : List Value) (W : World) (hW : Below w.heap.size w W) (ht : ReadsG W t us (rowN (setsK n xs.length))) => l10Table_any n xs.length all (.slice A l.length c) t us (setsK n xs.length) l W (H.out.below hW) hl ht HM2.out hsl hgd hn)
        have HRS := Lib.hid (fun (t v : Value) (us vs : List Value) (W : World) (ht : ReadsG W t us (rowN (setsK n xs.length))) (hv : ReadsGG W v vs (tblL n l all (setsK n xs.length))) => l10Resist_any n xs.length all v t us vs (setsK n xs.length) l W ht hv HM2.out hsl hn)
        have HAT := Lib.hid (fun (t : Value) (us : List Value) (W : World) (hW : Below w.heap.size w W) (ht : ReadsG W t us (rowN (setsK n xs.length))) => l4AtI_any t (.slice A2 xs.length c2) us (rowN (setsK n xs.length)) xs m W ht (HU.out.below hW) (by have h_ := rowN_at hm; rw [← hxa] at h_; exact h_) (fun j z hj hz => by have h_ := hfst j z hj hz; rw [← hxa] at h_; exact h_) (fun r hr => by obtain ⟨z, _, rfl⟩ := List.mem_map.1 hr; have := nw_len (bitB z) 8; unfold ndN; omega) (by rw [rowN_len]; omega))
        have HBE := Lib.hid (fun (p y a : Nat) (t v : Value) (vs : List Value) (W : World) (hp : (setsK n xs.length)[p]? = some a) (hy : y < n) (hb : a.testBit y = false) (hv : ReadsGG W v vs (tblL n l all (setsK n xs.length))) (ht : Ints W t ((setsK n xs.length).map (resV n l all (setsK n xs.length)))) => l10Best_any n p y a all v t vs (setsK n xs.length) l W hv ht hsl hp hy hn hb (once_sets hn hk8))
        have HBI : Hid (∀ y a, (ansF l all (setsK n xs.length) y a).length ≠ 0 → ∃ i : Nat, banI n l all (setsK n xs.length) y a = (i : Int) ∧ (setsK n xs.length)[i]? = some (banV n l all (setsK n xs.length) y a)) := fun y a h => by
          have hmem := (ansF_mem (banV_mem (n := n) (l := l) (all := all) (L := setsK n xs.length) (x := y) (a := a) (fun e => h (by rw [e]; rfl)))).1
          obtain ⟨i, hi⟩ := List.getElem?_of_mem hmem
          exact ⟨i, by unfold banI; rw [if_neg h, (once_sets hn hk8).idx hi], hi⟩
        have HBN : Hid (∀ y a, (ansF l all (setsK n xs.length) y a).length = 0 → banI n l all (setsK n xs.length) y a = -1) := fun y a h => by unfold banI; rw [if_pos h]
        have HNL : Hid (∀ c, (ndN c).length ≤ 8) := fun c => nw_len _ _
        have HRT := Lib.hid (rowN_len (setsK n xs.length))
        have HR0 : Hid (PlaR n l all (setsK n xs.length) ys (codeL xs) 0 (codeL xs) []) := PlaR.zero (List.mem_of_getElem? hm)
        have HM0 := Lib.hid hm
        clear hgd hso hm hfst hxa
        generalize hTE : (setsK n xs.length).map (resV n l all (setsK n xs.length)) = T at *
        clear hTE
        generalize tblL n l all (setsK n xs.length) = TB at *
        generalize setsK n xs.length = LK at *
        generalize codeL xs = a0 at *
        go_enter Tryd.func21, Tryd.ntmps21
        go_wp2_with fail
        refine (HGD.out).mono ?_
        rintro e w1 ⟨rfl, b1⟩
        have HE1 := Lib.hid (btrans HB0.out b1)
        have HG1 := Lib.hid (HG0.out.below b1 HG0.out.lt)
        have HO1 := Lib.hid (own_below HO0.out b1)
        clear p0 p1 b1
        obtain ⟨p0, p1, -, -⟩ := HG1.out.two
        go_wp2_with fail
        refine (HST.out w1 HE1.out).mono ?_
        rintro e w2 ⟨rfl, b2⟩
        have HE2 := Lib.hid (btrans HE1.out b2)
        have HG2 := Lib.hid (HG1.out.below b2 HG1.out.lt)
        have HO2 := Lib.hid (own_below HO1.out b2)
        clear p0 p1 b2
        obtain ⟨p0, p1, -, -⟩ := HG2.out.two
        go_wp2_with fail
        refine (HSE.out w2).mono ?_
        rintro e w4 ⟨A5, c5, us5, rfl, o5, b4⟩
        have HE4 := Lib.hid (btrans HE2.out b4)
        have HG4 := Lib.hid (HG2.out.below b4 HG2.out.lt)
        have HO4 := Lib.hid (own_below HO2.out b4)
        have HS4 := Lib.hid (gridl.readsG_of_own o5)
        clear p0 p1 b4 o5
        obtain ⟨p0, p1, -, -⟩ := HG4.out.two
        go_wp2_with fail
        refine (HTB.out _ us5 w4 HE4.out HS4.out).mono ?_
        rintro e w5 ⟨A6, c6, us6, rfl, o6, b5⟩
        have HE5 := Lib.hid (btrans HE4.out b5)
        have HG5 := Lib.hid (HG4.out.below b5 HG4.out.lt)
        have HO5 := Lib.hid (own_below HO4.out b5)
        have HS5 := Lib.hid (HS4.out.below b5)
        have HT5 := Lib.hid o6.reads
        clear p0 p1 b5 o6
        go_wp2_with fail
        refine (HRS.out _ _ us5 us6 w5 HS5.out HT5.out).mono ?_
        rintro e w6 ⟨A7, c7, rfl, o7, b6⟩
        have HE6 := Lib.hid (btrans HE5.out b6)
        have HG6 := Lib.hid (HG5.out.below b6 HG5.out.lt)
        have HO6 := Lib.hid (own_below HO5.out b6)
        have HS6 := Lib.hid (HS5.out.below b6)
        have HT6 := Lib.hid (HT5.out.below b6)
        have HR6 : Hid (Ints w6 (.slice A7 T.length c7) T) := Reads.of_own o7
        clear b6 o7
        go_wp2_with fail
        refine (HAT.out _ us5 w6 HE6.out HS6.out).mono ?_
        rintro e w7 ⟨rfl, b7⟩
        have HE7 := Lib.hid (btrans HE6.out b7)
        have HG7 := Lib.hid (HG6.out.below b7 HG6.out.lt)
        have HO7 : Hid (OutR w7 w.heap.size w7.heap.size (w.heap.size + 1) (.slice (some ⟨w.heap.size + 1, 0, none⟩) 0 0) [] (rowN [])) := .inl ⟨rfl, rfl, rfl, own_below HO6.out b7⟩
        have HS7 := Lib.hid (HS6.out.below b7)
        have HT7 := Lib.hid (HT6.out.below b7)
        have HR7 : Hid (Ints w7 (.slice A7 T.length c7) T) := HR6.out.below b7
        have hsz7 := HE7.out.size
        clear b7 HSE HTB HRS HAT HO6 HO5 HO4 HO2 HO1 HO0 HS6 HS5 HS4 HT6 HT5 HR6
        go_wp2_with fail
        go_loopg [10, 14, 15] ys.length (fun g ov pv iv wr => ∃ (k p a : Nat) (P : List Nat) (ow : Value) (os : List Value), ow = ov ∧ k + g = ys.length ∧ iv = .int .i64 (k : Int) ∧ pv = .int .i64 (p : Int) ∧ Hid (PlaR n l all LK ys a0 k a P) ∧ Hid (LK[p]? = some a) ∧ OutR wr w.heap.size w7.heap.size (w.heap.size + 1) ow os (rowN P) ∧ Below w7.heap.size w7 wr)
        case atStart => exact ⟨0, m, a0, [], _, [], rfl, by omega, rfl, rfl, HR0, HM0, HO7.out, Below.refl _ _⟩
        case round =>
          clear HR0 HM0 HO7
          obtain ⟨k, p, a, P, ow, os, rfl, hkg, rfl, rfl, hpr, hpa, hout, hB⟩ := hrel
          obtain ⟨Ao, co, rfl⟩ := hout.form
          have HB := Lib.hid hB
          have HE := Lib.hid (btrans HE7.out hB)
          have HG := Lib.hid (HG7.out.below hB HG7.out.lt)
          have HOU := Lib.hid hout
          have HPL : Hid (P.length = k) := hpr.out.2.1
          have HOK2 := Lib.hid (fun (W : World) (hW : Below wr.heap.size wr W) => (hout.below hW).own hsz7)
          obtain ⟨p0, p1, -, -⟩ := HG.out.two
          cases gk with
          | zero =>
            obtain rfl : k = ys.length := by omega
            have HR := Lib.hid (hpr.out.done)
            clear hout hB
            go_wp2_with fail
            go_ret2
            rw [HV.out, HR.out]
            exact RetGr.yes HOK.out (HOK2.out wr (Below.refl _ _)) HE.out
          | succ g2 =>
            have hlt : k < ys.length := by omega
            have hlt' : (k : Int) < (ys.length : Int) := by omega
            obtain ⟨x, hx⟩ : ∃ x, ys[k]? = some x := ⟨_, List.getElem?_eq_getElem hlt⟩
            obtain ⟨_, _, e1, hcc⟩ := (show Ints wr (.slice At ys.length ct) ys from HY.out.below HE.out).form
            cases e1
            obtain ⟨g1, o1, rfl, q1⟩ := hcc k _ hx
            have HND1 := Lib.hid (HND.out x wr.drew HE.out.drew)
            have hP30 : (rowN P).length ≤ 1048576 := by rw [rowN_len, HPL.out]; omega
            by_cases hxn : 0 ≤ x ∧ x < (n : Int)
            · rw [nodeG_yes hxn] at HND1
              obtain ⟨y, rfl⟩ : ∃ y : Nat, x = (y : Int) := ⟨x.toNat, by omega⟩
              have hy : y < n := by omega
              have hy8 : y ≤ 8 := by omega
              have ha8 := HL8.out a hpr.out.1
              obtain ⟨ua, gs0, os0, hua, hAs0, cs0, hra⟩ := (HS7.out.below hB).row (rowN_at hpa.out)
              subst hAs0
              obtain ⟨Ar, cr, rfl, -⟩ := hra.form
              have hpL0 : (p : Int) < ((rowN LK).length : Int) := by have := (List.getElem?_eq_some_iff.1 hpa.out).1; rw [HRT.out]; omega
              have HRA := Lib.hid hra
              have HHA := Lib.hid (fun (W : World) (hW : Below wr.heap.size wr W) => (by have h_ := l1Has_any (.slice Ar (ndN a).length cr) (ndN a) (y : Int) W (hra.below hW) (by have := HNL.out a; omega); rw [has_nd ha8] at h_; exact h_ : Calls Tryd.prog 41 #[.slice Ar (ndN a).length cr, .int .i64 (y : Int)] W fun e w' => e = .returned (.bool (a.testBit y)) ∧ W = w'))
              cases hbit : a.testBit y with
              | true =>
                have HN9 := Lib.hid (hpr.out.has hx hy hbit)
                rw [hbit] at HHA
                clear hbit hout hcc hx hpr hua hra
                go_wp2_with fail
                refine wp_region_held_drew (S := (fun w' : World => w'.cell? ⟨w.heap.size, 0, none⟩ = some (.int .i64 (n : Int)) ∧ w'.cell? ⟨w.heap.size, 1, none⟩ = some (.slice A l.length c) ∧ w'.cell? ⟨g1, o1 + k, none⟩ = some (.int .i64 (y : Int)))) (by kernel_rfl) (by (try dsimp only); simp [*]) (fun hHeld => ?_)
                change wpAnyH _ _ _ _ _ _ #[false, false, false, false, false, false, false] _ _
                refine wpAnyH_take (i := 0) (oi := ⟨some 52, _, _, _, _, _⟩) (v := ?_) rfl (by kernel_rfl) (by kernel_rfl) (by kernel_rfl) (fun _ _ _ h => h) (Or.inl ⟨by rfl, ?_⟩) (by assumption) ?_
                rotate_left
                · (intro w hSw; (try dsimp only at hSw); go_simp; (try (with_reducible rfl)))
                try simp only [Act.put, List.setIfInBounds_toArray, List.set_cons_zero, List.set_cons_succ]
                refine wpAnyH_take (i := 1) (oi := ⟨some 53, _, _, _, _, _⟩) (v := ?_) rfl (by kernel_rfl) (by kernel_rfl) (by kernel_rfl) (fun _ _ _ h => h) (Or.inl ⟨by rfl, ?_⟩) (by assumption) ?_
                rotate_left
                · (intro w hSw; (try dsimp only at hSw); go_simp; (try (with_reducible rfl)))
                try simp only [Act.put, List.setIfInBounds_toArray, List.set_cons_zero, List.set_cons_succ]
                refine wpAnyH_take (i := 2) (oi := ⟨some 54, _, _, _, _, _⟩) (v := ?_) rfl (by kernel_rfl) (by kernel_rfl) (by kernel_rfl) (fun _ _ _ h => h) (Or.inl ⟨by rfl, ?_⟩) (by assumption) ?_
                rotate_left
                · (intro w hSw; (try dsimp only at hSw); go_simp; (try (with_reducible rfl)))
                try simp only [Act.put, List.setIfInBounds_toArray, List.set_cons_zero, List.set_cons_succ]
                refine wpAnyH_take (i := 3) (oi := ⟨some 55, _, _, _, _, _⟩) (v := ?_) rfl (by kernel_rfl) (by kernel_rfl) (by kernel_rfl) (fun _ _ _ h => h) (Or.inl ⟨by rfl, ?_⟩) (by assumption) ?_
                rotate_left
                · (intro w hSw; (try dsimp only at hSw); go_simp; (try (with_reducible rfl)))
                try simp only [Act.put, List.setIfInBounds_toArray, List.set_cons_zero, List.set_cons_succ]
                refine wpAnyH_take (i := 4) (oi := ⟨some 56, _, _, _, _, _⟩) (v := ?_) rfl (by kernel_rfl) (by kernel_rfl) (by kernel_rfl) (fun _ _ _ h => h) (Or.inl ⟨by rfl, ?_⟩) (by assumption) ?_
                rotate_left
                · (intro w hSw; (try dsimp only at hSw); go_simp; (try (with_reducible rfl)))
                try simp only [Act.put, List.setIfInBounds_toArray, List.set_cons_zero, List.set_cons_succ]
                refine wpAnyH_ready (rs := [5]) (by kernel_rfl) (by simp) ?_
                refine AllReadyH.cons (o := ⟨some 57, _, _, _, _, _⟩) rfl (fun K hK => ?_) AllReadyH.nil
                go_simp
                (with_reducible refine HND1.out.mono ?_); rintro e w8 ⟨rfl, b8⟩; have d8 : Below wr.heap.size wr w8 := btrans (Below.refl _ _).drew b8; obtain ⟨k0, k1, -, -⟩ := (HG.out.below d8 HG.out.lt).two; have k2 := nearv.cell_keep q1 d8
                go_wp2_with fail
                refine hK.out _ _ (by (try dsimp only); simp [*]) (fun hHeld => ?_)
                clear hK K
                try simp only [List.setIfInBounds_toArray, List.set_cons_zero, List.set_cons_succ]
                refine wpAnyH_take (i := 6) (oi := ⟨some 58, _, _, _, _, _⟩) (v := ?_) rfl (by kernel_rfl) (by kernel_rfl) (by kernel_rfl) (fun _ _ _ h => h) (Or.inl ⟨by rfl, ?_⟩) (by assumption) ?_
                rotate_left
                · (intro w hSw; (try dsimp only at hSw); go_simp; (try (with_reducible rfl)))
                try simp only [Act.put, List.setIfInBounds_toArray, List.set_cons_zero, List.set_cons_succ]
                refine wpAnyH_done (by kernel_rfl) ?_ _
                have j2 := nearv.cell_keep cs0 d8
                clear k0 k1 hHeld
                go_wp2_with fail
                refine wp_region_held_drew (S := (fun w' : World => w'.cell? ⟨gs0, os0 + p, none⟩ = some (.slice Ar (ndN a).length cr) ∧ w'.cell? ⟨g1, o1 + k, none⟩ = some (.int .i64 (y : Int)))) (by kernel_rfl) (by (try dsimp only); simp [*]) (fun hHeld => ?_)
                change wpAnyH _ _ _ _ _ _ #[false, false, false, false, false, false, false, false, false, false] _ _
                refine wpAnyH_take (i := 0) (oi := ⟨some 60, _, _, _, _, _⟩) (v := ?_) rfl (by kernel_rfl) (by kernel_rfl) (by kernel_rfl) (fun _ _ _ h => h) (Or.inl ⟨by rfl, ?_⟩) (by assumption) ?_
                rotate_left
                · (intro w hSw; (try dsimp only at hSw); go_simp; (try (with_reducible rfl)))
                try simp only [Act.put, List.setIfInBounds_toArray, List.set_cons_zero, List.set_cons_succ]
                refine wpAnyH_take (i := 1) (oi := ⟨some 61, _, _, _, _, _⟩) (v := ?_) rfl (by kernel_rfl) (by kernel_rfl) (by kernel_rfl) (fun _ _ _ h => h) (Or.inl ⟨by rfl, ?_⟩) (by assumption) ?_
                rotate_left
                · (intro w hSw; (try dsimp only at hSw); go_simp; (try (with_reducible rfl)))
                try simp only [Act.put, List.setIfInBounds_toArray, List.set_cons_zero, List.set_cons_succ]
                refine wpAnyH_take (i := 2) (oi := ⟨some 62, _, _, _, _, _⟩) (v := ?_) rfl (by kernel_rfl) (by kernel_rfl) (by kernel_rfl) (fun _ _ _ h => h) (Or.inl ⟨by rfl, ?_⟩) (by assumption) ?_
                rotate_left
                · (intro w hSw; (try dsimp only at hSw); go_simp; (try (with_reducible rfl)))
                try simp only [Act.put, List.setIfInBounds_toArray, List.set_cons_zero, List.set_cons_succ]
                refine wpAnyH_take (i := 3) (oi := ⟨some 63, _, _, _, _, _⟩) (v := ?_) rfl (by kernel_rfl) (by kernel_rfl) (by kernel_rfl) (fun _ _ _ h => h) (Or.inl ⟨by rfl, ?_⟩) (by assumption) ?_
                rotate_left
                · (intro w hSw; (try dsimp only at hSw); go_simp; (try (with_reducible rfl)))
                try simp only [Act.put, List.setIfInBounds_toArray, List.set_cons_zero, List.set_cons_succ]
                refine wpAnyH_take (i := 4) (oi := ⟨some 64, _, _, _, _, _⟩) (v := ?_) rfl (by kernel_rfl) (by kernel_rfl) (by kernel_rfl) (fun _ _ _ h => h) (Or.inl ⟨by rfl, ?_⟩) (by assumption) ?_
                rotate_left
                · (intro w hSw; (try dsimp only at hSw); go_simp; (try (with_reducible rfl)))
                try simp only [Act.put, List.setIfInBounds_toArray, List.set_cons_zero, List.set_cons_succ]
                refine wpAnyH_take (i := 5) (oi := ⟨some 65, _, _, _, _, _⟩) (v := ?_) rfl (by kernel_rfl) (by kernel_rfl) (by kernel_rfl) (fun _ _ _ h => h) (Or.inl ⟨by rfl, ?_⟩) (by assumption) ?_
                rotate_left
                · (intro w hSw; (try dsimp only at hSw); go_simp; (try (with_reducible rfl)))
                try simp only [Act.put, List.setIfInBounds_toArray, List.set_cons_zero, List.set_cons_succ]
                refine wpAnyH_take (i := 6) (oi := ⟨some 66, _, _, _, _, _⟩) (v := ?_) rfl (by kernel_rfl) (by kernel_rfl) (by kernel_rfl) (fun _ _ _ h => h) (Or.inl ⟨by rfl, ?_⟩) (by assumption) ?_
                rotate_left
                · (intro w hSw; (try dsimp only at hSw); go_simp; (try (with_reducible rfl)))
                try simp only [Act.put, List.setIfInBounds_toArray, List.set_cons_zero, List.set_cons_succ]
                refine wpAnyH_take (i := 7) (oi := ⟨some 67, _, _, _, _, _⟩) (v := ?_) rfl (by kernel_rfl) (by kernel_rfl) (by kernel_rfl) (fun _ _ _ h => h) (Or.inl ⟨by rfl, ?_⟩) (by assumption) ?_
                rotate_left
                · (intro w hSw; (try dsimp only at hSw); go_simp; (try (with_reducible rfl)))
                try simp only [Act.put, List.setIfInBounds_toArray, List.set_cons_zero, List.set_cons_succ]
                refine wpAnyH_ready (rs := [8]) (by kernel_rfl) (by simp) ?_
                refine AllReadyH.cons (o := ⟨some 68, _, _, _, _, _⟩) rfl (fun K hK => ?_) AllReadyH.nil
                go_simp
                (with_reducible refine (HHA.out w8.drew d8.drew).mono ?_); rintro e w' ⟨rfl, rfl⟩
                go_wp2_with fail
                refine hK.out _ _ (by (try dsimp only); simp [*]) (fun hHeld => ?_)
                clear hK K
                try simp only [List.setIfInBounds_toArray, List.set_cons_zero, List.set_cons_succ]
                refine wpAnyH_take (i := 9) (oi := ⟨some 69, _, _, _, _, _⟩) (v := ?_) rfl (by kernel_rfl) (by kernel_rfl) (by kernel_rfl) (fun _ _ _ h => h) (Or.inl ⟨by rfl, ?_⟩) (by assumption) ?_
                rotate_left
                · (intro w hSw; (try dsimp only at hSw); go_simp; (try (with_reducible rfl)))
                try simp only [Act.put, List.setIfInBounds_toArray, List.set_cons_zero, List.set_cons_succ]
                refine wpAnyH_done (by kernel_rfl) ?_ _
                have BEL : Hid (Below w7.heap.size w7 w8.drew) := (btrans HB.out d8).drew
                have HOUT := Lib.hid ((HOU.out.below d8).below (Below.refl _ _).drew)
                clear p0 p1 q1 cs0 hB hHeld k2
                have cs := nearv.cell_keep j2 (Below.refl _ w8).drew
                have hru : Ints w8.drew (.slice Ar (ndN a).length cr) (ndN a) := HRA.out.below d8.drew
                have hpL : (p : Int) < ((rowN LK).length : Int) := by have := (List.getElem?_eq_some_iff.1 hpa.out).1; rw [HRT.out]; omega
                have hp0 : decide ((p : Int) < 0) = false := decide_eq_false (by omega)
                have how := times.l1Own_any (.slice Ar (ndN a).length cr) (ndN a) w8.drew hru (by have := HNL.out a; omega)
                have HOW := Lib.hid how
                have hD8 := BEL.out.size
                have HRL := Lib.hid (rowN_snoc P a)
                clear hru how j2
                go_wp2_with fail
                refine HOW.out.mono ?_
                rintro e w9 ⟨A9, c9, rfl, o9, b9⟩
                clear d8 b8 cs
                have hout9 := HOUT.out
                go_wp2_with (at_builtin; refine wpList_append_out rfl rfl _ _ rfl rfl hout9 hP30 hD8 b9 o9 rfl rfl ?_; intro v10 w10 hout10 hB10)
                have HO10 := Lib.hid hout10
                have HB10 := Lib.hid (BEL.out.trans hB10)
                clear hout9 hout10 hB10 o9 b9
                go_roundg g2
                case measure => omega
                case rel => exact ⟨k + 1, p, a, P ++ [a], v10, _, rfl, by omega, by go_num, rfl, HN9, hpa, by rw [HRL.out]; exact HO10.out, HB10.out⟩
              | false =>
                rw [hbit] at HHA
                have HBE1 := Lib.hid (fun (W : World) (hW : Below w7.heap.size w7 W) => HBE.out p y a _ _ us6 W hpa.out hy hbit (HT7.out.below hW) (HR7.out.below hW))
                by_cases hF : (ansF l all LK y a).length = 0
                · have HR := Lib.hid (hpr.out.none hx hy hbit hF)
                  rw [HBN.out y a hF] at HBE1
                  clear hbit hout hcc hx hpr hua hra hF
                  go_wp2_with fail
                  refine wp_region_held_drew (S := (fun w' : World => w'.cell? ⟨w.heap.size, 0, none⟩ = some (.int .i64 (n : Int)) ∧ w'.cell? ⟨w.heap.size, 1, none⟩ = some (.slice A l.length c) ∧ w'.cell? ⟨g1, o1 + k, none⟩ = some (.int .i64 (y : Int)))) (by kernel_rfl) (by (try dsimp only); simp [*]) (fun hHeld => ?_)
                  change wpAnyH _ _ _ _ _ _ #[false, false, false, false, false, false, false] _ _
                  refine wpAnyH_take (i := 0) (oi := ⟨some 52, _, _, _, _, _⟩) (v := ?_) rfl (by kernel_rfl) (by kernel_rfl) (by kernel_rfl) (fun _ _ _ h => h) (Or.inl ⟨by rfl, ?_⟩) (by assumption) ?_
                  rotate_left
                  · (intro w hSw; (try dsimp only at hSw); go_simp; (try (with_reducible rfl)))
                  try simp only [Act.put, List.setIfInBounds_toArray, List.set_cons_zero, List.set_cons_succ]
                  refine wpAnyH_take (i := 1) (oi := ⟨some 53, _, _, _, _, _⟩) (v := ?_) rfl (by kernel_rfl) (by kernel_rfl) (by kernel_rfl) (fun _ _ _ h => h) (Or.inl ⟨by rfl, ?_⟩) (by assumption) ?_
                  rotate_left
                  · (intro w hSw; (try dsimp only at hSw); go_simp; (try (with_reducible rfl)))
                  try simp only [Act.put, List.setIfInBounds_toArray, List.set_cons_zero, List.set_cons_succ]
                  refine wpAnyH_take (i := 2) (oi := ⟨some 54, _, _, _, _, _⟩) (v := ?_) rfl (by kernel_rfl) (by kernel_rfl) (by kernel_rfl) (fun _ _ _ h => h) (Or.inl ⟨by rfl, ?_⟩) (by assumption) ?_
                  rotate_left
                  · (intro w hSw; (try dsimp only at hSw); go_simp; (try (with_reducible rfl)))
                  try simp only [Act.put, List.setIfInBounds_toArray, List.set_cons_zero, List.set_cons_succ]
                  refine wpAnyH_take (i := 3) (oi := ⟨some 55, _, _, _, _, _⟩) (v := ?_) rfl (by kernel_rfl) (by kernel_rfl) (by kernel_rfl) (fun _ _ _ h => h) (Or.inl ⟨by rfl, ?_⟩) (by assumption) ?_
                  rotate_left
                  · (intro w hSw; (try dsimp only at hSw); go_simp; (try (with_reducible rfl)))
                  try simp only [Act.put, List.setIfInBounds_toArray, List.set_cons_zero, List.set_cons_succ]
                  refine wpAnyH_take (i := 4) (oi := ⟨some 56, _, _, _, _, _⟩) (v := ?_) rfl (by kernel_rfl) (by kernel_rfl) (by kernel_rfl) (fun _ _ _ h => h) (Or.inl ⟨by rfl, ?_⟩) (by assumption) ?_
                  rotate_left
                  · (intro w hSw; (try dsimp only at hSw); go_simp; (try (with_reducible rfl)))
                  try simp only [Act.put, List.setIfInBounds_toArray, List.set_cons_zero, List.set_cons_succ]
                  refine wpAnyH_ready (rs := [5]) (by kernel_rfl) (by simp) ?_
                  refine AllReadyH.cons (o := ⟨some 57, _, _, _, _, _⟩) rfl (fun K hK => ?_) AllReadyH.nil
                  go_simp
                  (with_reducible refine HND1.out.mono ?_); rintro e w8 ⟨rfl, b8⟩; have d8 : Below wr.heap.size wr w8 := btrans (Below.refl _ _).drew b8; obtain ⟨k0, k1, -, -⟩ := (HG.out.below d8 HG.out.lt).two; have k2 := nearv.cell_keep q1 d8
                  go_wp2_with fail
                  refine hK.out _ _ (by (try dsimp only); simp [*]) (fun hHeld => ?_)
                  clear hK K
                  try simp only [List.setIfInBounds_toArray, List.set_cons_zero, List.set_cons_succ]
                  refine wpAnyH_take (i := 6) (oi := ⟨some 58, _, _, _, _, _⟩) (v := ?_) rfl (by kernel_rfl) (by kernel_rfl) (by kernel_rfl) (fun _ _ _ h => h) (Or.inl ⟨by rfl, ?_⟩) (by assumption) ?_
                  rotate_left
                  · (intro w hSw; (try dsimp only at hSw); go_simp; (try (with_reducible rfl)))
                  try simp only [Act.put, List.setIfInBounds_toArray, List.set_cons_zero, List.set_cons_succ]
                  refine wpAnyH_done (by kernel_rfl) ?_ _
                  have j2 := nearv.cell_keep cs0 d8
                  clear k0 k1 hHeld
                  go_wp2_with fail
                  refine wp_region_held_drew (S := (fun w' : World => w'.cell? ⟨gs0, os0 + p, none⟩ = some (.slice Ar (ndN a).length cr) ∧ w'.cell? ⟨g1, o1 + k, none⟩ = some (.int .i64 (y : Int)))) (by kernel_rfl) (by (try dsimp only); simp [*]) (fun hHeld => ?_)
                  change wpAnyH _ _ _ _ _ _ #[false, false, false, false, false, false, false, false, false, false] _ _
                  refine wpAnyH_take (i := 0) (oi := ⟨some 60, _, _, _, _, _⟩) (v := ?_) rfl (by kernel_rfl) (by kernel_rfl) (by kernel_rfl) (fun _ _ _ h => h) (Or.inl ⟨by rfl, ?_⟩) (by assumption) ?_
                  rotate_left
                  · (intro w hSw; (try dsimp only at hSw); go_simp; (try (with_reducible rfl)))
                  try simp only [Act.put, List.setIfInBounds_toArray, List.set_cons_zero, List.set_cons_succ]
                  refine wpAnyH_take (i := 1) (oi := ⟨some 61, _, _, _, _, _⟩) (v := ?_) rfl (by kernel_rfl) (by kernel_rfl) (by kernel_rfl) (fun _ _ _ h => h) (Or.inl ⟨by rfl, ?_⟩) (by assumption) ?_
                  rotate_left
                  · (intro w hSw; (try dsimp only at hSw); go_simp; (try (with_reducible rfl)))
                  try simp only [Act.put, List.setIfInBounds_toArray, List.set_cons_zero, List.set_cons_succ]
                  refine wpAnyH_take (i := 2) (oi := ⟨some 62, _, _, _, _, _⟩) (v := ?_) rfl (by kernel_rfl) (by kernel_rfl) (by kernel_rfl) (fun _ _ _ h => h) (Or.inl ⟨by rfl, ?_⟩) (by assumption) ?_
                  rotate_left
                  · (intro w hSw; (try dsimp only at hSw); go_simp; (try (with_reducible rfl)))
                  try simp only [Act.put, List.setIfInBounds_toArray, List.set_cons_zero, List.set_cons_succ]
                  refine wpAnyH_take (i := 3) (oi := ⟨some 63, _, _, _, _, _⟩) (v := ?_) rfl (by kernel_rfl) (by kernel_rfl) (by kernel_rfl) (fun _ _ _ h => h) (Or.inl ⟨by rfl, ?_⟩) (by assumption) ?_
                  rotate_left
                  · (intro w hSw; (try dsimp only at hSw); go_simp; (try (with_reducible rfl)))
                  try simp only [Act.put, List.setIfInBounds_toArray, List.set_cons_zero, List.set_cons_succ]
                  refine wpAnyH_take (i := 4) (oi := ⟨some 64, _, _, _, _, _⟩) (v := ?_) rfl (by kernel_rfl) (by kernel_rfl) (by kernel_rfl) (fun _ _ _ h => h) (Or.inl ⟨by rfl, ?_⟩) (by assumption) ?_
                  rotate_left
                  · (intro w hSw; (try dsimp only at hSw); go_simp; (try (with_reducible rfl)))
                  try simp only [Act.put, List.setIfInBounds_toArray, List.set_cons_zero, List.set_cons_succ]
                  refine wpAnyH_take (i := 5) (oi := ⟨some 65, _, _, _, _, _⟩) (v := ?_) rfl (by kernel_rfl) (by kernel_rfl) (by kernel_rfl) (fun _ _ _ h => h) (Or.inl ⟨by rfl, ?_⟩) (by assumption) ?_
                  rotate_left
                  · (intro w hSw; (try dsimp only at hSw); go_simp; (try (with_reducible rfl)))
                  try simp only [Act.put, List.setIfInBounds_toArray, List.set_cons_zero, List.set_cons_succ]
                  refine wpAnyH_take (i := 6) (oi := ⟨some 66, _, _, _, _, _⟩) (v := ?_) rfl (by kernel_rfl) (by kernel_rfl) (by kernel_rfl) (fun _ _ _ h => h) (Or.inl ⟨by rfl, ?_⟩) (by assumption) ?_
                  rotate_left
                  · (intro w hSw; (try dsimp only at hSw); go_simp; (try (with_reducible rfl)))
                  try simp only [Act.put, List.setIfInBounds_toArray, List.set_cons_zero, List.set_cons_succ]
                  refine wpAnyH_take (i := 7) (oi := ⟨some 67, _, _, _, _, _⟩) (v := ?_) rfl (by kernel_rfl) (by kernel_rfl) (by kernel_rfl) (fun _ _ _ h => h) (Or.inl ⟨by rfl, ?_⟩) (by assumption) ?_
                  rotate_left
                  · (intro w hSw; (try dsimp only at hSw); go_simp; (try (with_reducible rfl)))
                  try simp only [Act.put, List.setIfInBounds_toArray, List.set_cons_zero, List.set_cons_succ]
                  refine wpAnyH_ready (rs := [8]) (by kernel_rfl) (by simp) ?_
                  refine AllReadyH.cons (o := ⟨some 68, _, _, _, _, _⟩) rfl (fun K hK => ?_) AllReadyH.nil
                  go_simp
                  (with_reducible refine (HHA.out w8.drew d8.drew).mono ?_); rintro e w' ⟨rfl, rfl⟩
                  go_wp2_with fail
                  refine hK.out _ _ (by (try dsimp only); simp [*]) (fun hHeld => ?_)
                  clear hK K
                  try simp only [List.setIfInBounds_toArray, List.set_cons_zero, List.set_cons_succ]
                  refine wpAnyH_take (i := 9) (oi := ⟨some 69, _, _, _, _, _⟩) (v := ?_) rfl (by kernel_rfl) (by kernel_rfl) (by kernel_rfl) (fun _ _ _ h => h) (Or.inl ⟨by rfl, ?_⟩) (by assumption) ?_
                  rotate_left
                  · (intro w hSw; (try dsimp only at hSw); go_simp; (try (with_reducible rfl)))
                  try simp only [Act.put, List.setIfInBounds_toArray, List.set_cons_zero, List.set_cons_succ]
                  refine wpAnyH_done (by kernel_rfl) ?_ _
                  clear p0 p1 q1 cs0 hB hHeld j2
                  have k3 := nearv.cell_keep k2 (Below.refl _ w8).drew
                  go_wp2_with fail
                  refine (HBE1.out w8.drew (btrans HB.out d8).drew).mono ?_
                  rintro e w9 ⟨rfl, b9⟩
                  have d9 := btrans d8.drew b9
                  go_wp2_with fail
                  go_ret2
                  rw [HV.out, HR.out]
                  exact RetGr.yes HOK.out (HOK2.out w9 d9) (btrans HE.out d9)
                · obtain ⟨i, hbi, hi⟩ := HBI.out y a hF
                  have hi := Lib.hid hi
                  have HN9 := Lib.hid (hpr.out.go hx hy hbit hF)
                  rw [hbi] at HBE1
                  clear hbit hout hcc hx hpr hua hra hF hbi
                  generalize banV n l all LK y a = bv at *
                  go_wp2_with fail
                  refine wp_region_held_drew (S := (fun w' : World => w'.cell? ⟨w.heap.size, 0, none⟩ = some (.int .i64 (n : Int)) ∧ w'.cell? ⟨w.heap.size, 1, none⟩ = some (.slice A l.length c) ∧ w'.cell? ⟨g1, o1 + k, none⟩ = some (.int .i64 (y : Int)))) (by kernel_rfl) (by (try dsimp only); simp [*]) (fun hHeld => ?_)
                  change wpAnyH _ _ _ _ _ _ #[false, false, false, false, false, false, false] _ _
                  refine wpAnyH_take (i := 0) (oi := ⟨some 52, _, _, _, _, _⟩) (v := ?_) rfl (by kernel_rfl) (by kernel_rfl) (by kernel_rfl) (fun _ _ _ h => h) (Or.inl ⟨by rfl, ?_⟩) (by assumption) ?_
                  rotate_left
                  · (intro w hSw; (try dsimp only at hSw); go_simp; (try (with_reducible rfl)))
                  try simp only [Act.put, List.setIfInBounds_toArray, List.set_cons_zero, List.set_cons_succ]
                  refine wpAnyH_take (i := 1) (oi := ⟨some 53, _, _, _, _, _⟩) (v := ?_) rfl (by kernel_rfl) (by kernel_rfl) (by kernel_rfl) (fun _ _ _ h => h) (Or.inl ⟨by rfl, ?_⟩) (by assumption) ?_
                  rotate_left
                  · (intro w hSw; (try dsimp only at hSw); go_simp; (try (with_reducible rfl)))
                  try simp only [Act.put, List.setIfInBounds_toArray, List.set_cons_zero, List.set_cons_succ]
                  refine wpAnyH_take (i := 2) (oi := ⟨some 54, _, _, _, _, _⟩) (v := ?_) rfl (by kernel_rfl) (by kernel_rfl) (by kernel_rfl) (fun _ _ _ h => h) (Or.inl ⟨by rfl, ?_⟩) (by assumption) ?_
                  rotate_left
                  · (intro w hSw; (try dsimp only at hSw); go_simp; (try (with_reducible rfl)))
                  try simp only [Act.put, List.setIfInBounds_toArray, List.set_cons_zero, List.set_cons_succ]
                  refine wpAnyH_take (i := 3) (oi := ⟨some 55, _, _, _, _, _⟩) (v := ?_) rfl (by kernel_rfl) (by kernel_rfl) (by kernel_rfl) (fun _ _ _ h => h) (Or.inl ⟨by rfl, ?_⟩) (by assumption) ?_
                  rotate_left
                  · (intro w hSw; (try dsimp only at hSw); go_simp; (try (with_reducible rfl)))
                  try simp only [Act.put, List.setIfInBounds_toArray, List.set_cons_zero, List.set_cons_succ]
                  refine wpAnyH_take (i := 4) (oi := ⟨some 56, _, _, _, _, _⟩) (v := ?_) rfl (by kernel_rfl) (by kernel_rfl) (by kernel_rfl) (fun _ _ _ h => h) (Or.inl ⟨by rfl, ?_⟩) (by assumption) ?_
                  rotate_left
                  · (intro w hSw; (try dsimp only at hSw); go_simp; (try (with_reducible rfl)))
                  try simp only [Act.put, List.setIfInBounds_toArray, List.set_cons_zero, List.set_cons_succ]
                  refine wpAnyH_ready (rs := [5]) (by kernel_rfl) (by simp) ?_
                  refine AllReadyH.cons (o := ⟨some 57, _, _, _, _, _⟩) rfl (fun K hK => ?_) AllReadyH.nil
                  go_simp
                  (with_reducible refine HND1.out.mono ?_); rintro e w8 ⟨rfl, b8⟩; have d8 : Below wr.heap.size wr w8 := btrans (Below.refl _ _).drew b8; obtain ⟨k0, k1, -, -⟩ := (HG.out.below d8 HG.out.lt).two; have k2 := nearv.cell_keep q1 d8
                  go_wp2_with fail
                  refine hK.out _ _ (by (try dsimp only); simp [*]) (fun hHeld => ?_)
                  clear hK K
                  try simp only [List.setIfInBounds_toArray, List.set_cons_zero, List.set_cons_succ]
                  refine wpAnyH_take (i := 6) (oi := ⟨some 58, _, _, _, _, _⟩) (v := ?_) rfl (by kernel_rfl) (by kernel_rfl) (by kernel_rfl) (fun _ _ _ h => h) (Or.inl ⟨by rfl, ?_⟩) (by assumption) ?_
                  rotate_left
                  · (intro w hSw; (try dsimp only at hSw); go_simp; (try (with_reducible rfl)))
                  try simp only [Act.put, List.setIfInBounds_toArray, List.set_cons_zero, List.set_cons_succ]
                  refine wpAnyH_done (by kernel_rfl) ?_ _
                  have j2 := nearv.cell_keep cs0 d8
                  clear k0 k1 hHeld
                  go_wp2_with fail
                  refine wp_region_held_drew (S := (fun w' : World => w'.cell? ⟨gs0, os0 + p, none⟩ = some (.slice Ar (ndN a).length cr) ∧ w'.cell? ⟨g1, o1 + k, none⟩ = some (.int .i64 (y : Int)))) (by kernel_rfl) (by (try dsimp only); simp [*]) (fun hHeld => ?_)
                  change wpAnyH _ _ _ _ _ _ #[false, false, false, false, false, false, false, false, false, false] _ _
                  refine wpAnyH_take (i := 0) (oi := ⟨some 60, _, _, _, _, _⟩) (v := ?_) rfl (by kernel_rfl) (by kernel_rfl) (by kernel_rfl) (fun _ _ _ h => h) (Or.inl ⟨by rfl, ?_⟩) (by assumption) ?_
                  rotate_left
                  · (intro w hSw; (try dsimp only at hSw); go_simp; (try (with_reducible rfl)))
                  try simp only [Act.put, List.setIfInBounds_toArray, List.set_cons_zero, List.set_cons_succ]
                  refine wpAnyH_take (i := 1) (oi := ⟨some 61, _, _, _, _, _⟩) (v := ?_) rfl (by kernel_rfl) (by kernel_rfl) (by kernel_rfl) (fun _ _ _ h => h) (Or.inl ⟨by rfl, ?_⟩) (by assumption) ?_
                  rotate_left
                  · (intro w hSw; (try dsimp only at hSw); go_simp; (try (with_reducible rfl)))
                  try simp only [Act.put, List.setIfInBounds_toArray, List.set_cons_zero, List.set_cons_succ]
                  refine wpAnyH_take (i := 2) (oi := ⟨some 62, _, _, _, _, _⟩) (v := ?_) rfl (by kernel_rfl) (by kernel_rfl) (by kernel_rfl) (fun _ _ _ h => h) (Or.inl ⟨by rfl, ?_⟩) (by assumption) ?_
                  rotate_left
                  · (intro w hSw; (try dsimp only at hSw); go_simp; (try (with_reducible rfl)))
                  try simp only [Act.put, List.setIfInBounds_toArray, List.set_cons_zero, List.set_cons_succ]
                  refine wpAnyH_take (i := 3) (oi := ⟨some 63, _, _, _, _, _⟩) (v := ?_) rfl (by kernel_rfl) (by kernel_rfl) (by kernel_rfl) (fun _ _ _ h => h) (Or.inl ⟨by rfl, ?_⟩) (by assumption) ?_
                  rotate_left
                  · (intro w hSw; (try dsimp only at hSw); go_simp; (try (with_reducible rfl)))
                  try simp only [Act.put, List.setIfInBounds_toArray, List.set_cons_zero, List.set_cons_succ]
                  refine wpAnyH_take (i := 4) (oi := ⟨some 64, _, _, _, _, _⟩) (v := ?_) rfl (by kernel_rfl) (by kernel_rfl) (by kernel_rfl) (fun _ _ _ h => h) (Or.inl ⟨by rfl, ?_⟩) (by assumption) ?_
                  rotate_left
                  · (intro w hSw; (try dsimp only at hSw); go_simp; (try (with_reducible rfl)))
                  try simp only [Act.put, List.setIfInBounds_toArray, List.set_cons_zero, List.set_cons_succ]
                  refine wpAnyH_take (i := 5) (oi := ⟨some 65, _, _, _, _, _⟩) (v := ?_) rfl (by kernel_rfl) (by kernel_rfl) (by kernel_rfl) (fun _ _ _ h => h) (Or.inl ⟨by rfl, ?_⟩) (by assumption) ?_
                  rotate_left
                  · (intro w hSw; (try dsimp only at hSw); go_simp; (try (with_reducible rfl)))
                  try simp only [Act.put, List.setIfInBounds_toArray, List.set_cons_zero, List.set_cons_succ]
                  refine wpAnyH_take (i := 6) (oi := ⟨some 66, _, _, _, _, _⟩) (v := ?_) rfl (by kernel_rfl) (by kernel_rfl) (by kernel_rfl) (fun _ _ _ h => h) (Or.inl ⟨by rfl, ?_⟩) (by assumption) ?_
                  rotate_left
                  · (intro w hSw; (try dsimp only at hSw); go_simp; (try (with_reducible rfl)))
                  try simp only [Act.put, List.setIfInBounds_toArray, List.set_cons_zero, List.set_cons_succ]
                  refine wpAnyH_take (i := 7) (oi := ⟨some 67, _, _, _, _, _⟩) (v := ?_) rfl (by kernel_rfl) (by kernel_rfl) (by kernel_rfl) (fun _ _ _ h => h) (Or.inl ⟨by rfl, ?_⟩) (by assumption) ?_
                  rotate_left
                  · (intro w hSw; (try dsimp only at hSw); go_simp; (try (with_reducible rfl)))
                  try simp only [Act.put, List.setIfInBounds_toArray, List.set_cons_zero, List.set_cons_succ]
                  refine wpAnyH_ready (rs := [8]) (by kernel_rfl) (by simp) ?_
                  refine AllReadyH.cons (o := ⟨some 68, _, _, _, _, _⟩) rfl (fun K hK => ?_) AllReadyH.nil
                  go_simp
                  (with_reducible refine (HHA.out w8.drew d8.drew).mono ?_); rintro e w' ⟨rfl, rfl⟩
                  go_wp2_with fail
                  refine hK.out _ _ (by (try dsimp only); simp [*]) (fun hHeld => ?_)
                  clear hK K
                  try simp only [List.setIfInBounds_toArray, List.set_cons_zero, List.set_cons_succ]
                  refine wpAnyH_take (i := 9) (oi := ⟨some 69, _, _, _, _, _⟩) (v := ?_) rfl (by kernel_rfl) (by kernel_rfl) (by kernel_rfl) (fun _ _ _ h => h) (Or.inl ⟨by rfl, ?_⟩) (by assumption) ?_
                  rotate_left
                  · (intro w hSw; (try dsimp only at hSw); go_simp; (try (with_reducible rfl)))
                  try simp only [Act.put, List.setIfInBounds_toArray, List.set_cons_zero, List.set_cons_succ]
                  refine wpAnyH_done (by kernel_rfl) ?_ _
                  clear p0 p1 q1 cs0 hB hHeld j2
                  have k3 := nearv.cell_keep k2 (Below.refl _ w8).drew
                  go_wp2_with fail
                  refine (HBE1.out w8.drew (btrans HB.out d8).drew).mono ?_
                  rintro e w9_ ⟨rfl, b9_⟩
                  have BEL : Hid (Below w7.heap.size w7 w9_) := btrans (btrans HB.out d8).drew b9_
                  have HOUT := Lib.hid (((HOU.out.below d8).below (Below.refl _ _).drew).below b9_)
                  clear k2 k3
                  obtain ⟨ub, gs, os_, hub, hAs, cs, hru⟩ := (HS7.out.below BEL.out).row (rowN_at hi.out)
                  first | cases hAs | subst hAs
                  obtain ⟨Ar_, cr_, e_, -⟩ := hru.form
                  subst e_
                  have hpL : (i : Int) < ((rowN LK).length : Int) := by have := (List.getElem?_eq_some_iff.1 hi.out).1; rw [HRT.out]; omega
                  have hp0 : decide ((i : Int) < 0) = false := decide_eq_false (by omega)
                  have how := times.l1Own_any (.slice Ar_ (ndN bv).length cr_) (ndN bv) w9_ hru (by have := HNL.out bv; omega)
                  have HOW := Lib.hid how
                  have hD8 := BEL.out.size
                  have HRL := Lib.hid (rowN_snoc P bv)
                  clear hub hru how
                  go_wp2_with fail
                  refine HOW.out.mono ?_
                  rintro e w9 ⟨A9, c9, rfl, o9, b9⟩
                  clear d8 b8 cs
                  have hout9 := HOUT.out
                  go_wp2_with (at_builtin; refine wpList_append_out rfl rfl _ _ rfl rfl hout9 hP30 hD8 b9 o9 rfl rfl ?_; intro v10 w10 hout10 hB10)
                  have HO10 := Lib.hid hout10
                  have HB10 := Lib.hid (BEL.out.trans hB10)
                  clear hout9 hout10 hB10 o9 b9
                  go_roundg g2
                  case measure => omega
                  case rel => exact ⟨k + 1, i, bv, P ++ [bv], v10, _, rfl, by omega, by go_num, rfl, HN9, hi, by rw [HRL.out]; exact HO10.out, HB10.out⟩
            · rw [nodeG_no hxn] at HND1
              have HR := Lib.hid (hpr.out.out hx hxn)
              clear hout hcc hx hpr
              go_wp2_with fail
              refine wp_region_held_drew (S := (fun w' : World => w'.cell? ⟨w.heap.size, 0, none⟩ = some (.int .i64 (n : Int)) ∧ w'.cell? ⟨w.heap.size, 1, none⟩ = some (.slice A l.length c) ∧ w'.cell? ⟨g1, o1 + k, none⟩ = some (.int .i64 x))) (by kernel_rfl) (by (try dsimp only); simp [*]) (fun hHeld => ?_)
              change wpAnyH _ _ _ _ _ _ #[false, false, false, false, false, false, false] _ _
              refine wpAnyH_take (i := 0) (oi := ⟨some 52, _, _, _, _, _⟩) (v := ?_) rfl (by kernel_rfl) (by kernel_rfl) (by kernel_rfl) (fun _ _ _ h => h) (Or.inl ⟨by rfl, ?_⟩) (by assumption) ?_
              rotate_left
              · (intro w hSw; (try dsimp only at hSw); go_simp; (try (with_reducible rfl)))
              try simp only [Act.put, List.setIfInBounds_toArray, List.set_cons_zero, List.set_cons_succ]
              refine wpAnyH_take (i := 1) (oi := ⟨some 53, _, _, _, _, _⟩) (v := ?_) rfl (by kernel_rfl) (by kernel_rfl) (by kernel_rfl) (fun _ _ _ h => h) (Or.inl ⟨by rfl, ?_⟩) (by assumption) ?_
              rotate_left
              · (intro w hSw; (try dsimp only at hSw); go_simp; (try (with_reducible rfl)))
              try simp only [Act.put, List.setIfInBounds_toArray, List.set_cons_zero, List.set_cons_succ]
              refine wpAnyH_take (i := 2) (oi := ⟨some 54, _, _, _, _, _⟩) (v := ?_) rfl (by kernel_rfl) (by kernel_rfl) (by kernel_rfl) (fun _ _ _ h => h) (Or.inl ⟨by rfl, ?_⟩) (by assumption) ?_
              rotate_left
              · (intro w hSw; (try dsimp only at hSw); go_simp; (try (with_reducible rfl)))
              try simp only [Act.put, List.setIfInBounds_toArray, List.set_cons_zero, List.set_cons_succ]
              refine wpAnyH_take (i := 3) (oi := ⟨some 55, _, _, _, _, _⟩) (v := ?_) rfl (by kernel_rfl) (by kernel_rfl) (by kernel_rfl) (fun _ _ _ h => h) (Or.inl ⟨by rfl, ?_⟩) (by assumption) ?_
              rotate_left
              · (intro w hSw; (try dsimp only at hSw); go_simp; (try (with_reducible rfl)))
              try simp only [Act.put, List.setIfInBounds_toArray, List.set_cons_zero, List.set_cons_succ]
              refine wpAnyH_take (i := 4) (oi := ⟨some 56, _, _, _, _, _⟩) (v := ?_) rfl (by kernel_rfl) (by kernel_rfl) (by kernel_rfl) (fun _ _ _ h => h) (Or.inl ⟨by rfl, ?_⟩) (by assumption) ?_
              rotate_left
              · (intro w hSw; (try dsimp only at hSw); go_simp; (try (with_reducible rfl)))
              try simp only [Act.put, List.setIfInBounds_toArray, List.set_cons_zero, List.set_cons_succ]
              refine wpAnyH_ready (rs := [5]) (by kernel_rfl) (by simp) ?_
              refine AllReadyH.cons (o := ⟨some 57, _, _, _, _, _⟩) rfl (fun K hK => ?_) AllReadyH.nil
              go_simp
              (with_reducible refine HND1.out.mono ?_); rintro e w8 ⟨rfl, b8⟩; have d8 : Below wr.heap.size wr w8 := btrans (Below.refl _ _).drew b8; obtain ⟨k0, k1, -, -⟩ := (HG.out.below d8 HG.out.lt).two; have k2 := nearv.cell_keep q1 d8
              go_wp2_with fail
              refine hK.out _ _ (by (try dsimp only); simp [*]) (fun hHeld => ?_)
              clear hK K
              try simp only [List.setIfInBounds_toArray, List.set_cons_zero, List.set_cons_succ]
              refine wpAnyH_take (i := 6) (oi := ⟨some 58, _, _, _, _, _⟩) (v := ?_) rfl (by kernel_rfl) (by kernel_rfl) (by kernel_rfl) (fun _ _ _ h => h) (Or.inl ⟨by rfl, ?_⟩) (by assumption) ?_
              rotate_left
              · (intro w hSw; (try dsimp only at hSw); go_simp; (try (with_reducible rfl)))
              try simp only [Act.put, List.setIfInBounds_toArray, List.set_cons_zero, List.set_cons_succ]
              refine wpAnyH_done (by kernel_rfl) ?_ _
              clear p0 p1 q1 k0 k1 k2 hHeld
              go_wp2_with fail
              go_ret2
              rw [HV.out, HR.out]
              exact RetGr.yes HOK.out (HOK2.out w8 d8) (btrans HE.out d8)
      · have hY30 : decide (30 < ys.length) = true := decide_eq_true (by omega)
        have hY31 : (30 : Int) < (ys.length : Int) := by omega
        have HNO : Hid (¬ PlaOk (n : Int) l xs ys) := fun h => hys h.2
        clear hgd hso
        go_enter Tryd.func21, Tryd.ntmps21
        go_wp2_with fail
        refine (HGD.out).mono ?_
        rintro e w1 ⟨rfl, b1⟩
        have HE1 := Lib.hid (btrans HB0.out b1)
        have HG1 := Lib.hid (HG0.out.below b1 HG0.out.lt)
        have HO1 := Lib.hid (own_below HO0.out b1)
        clear p0 p1 b1
        obtain ⟨p0, p1, -, -⟩ := HG1.out.two
        go_wp2_with fail
        refine (HST.out w1 HE1.out).mono ?_
        rintro e w2 ⟨rfl, b2⟩
        have HE2 := Lib.hid (btrans HE1.out b2)
        have HG2 := Lib.hid (HG1.out.below b2 HG1.out.lt)
        have HO2 := Lib.hid (own_below HO1.out b2)
        clear p0 p1 b2
        go_wp2_with fail
        go_ret2
        exact RetGr.no HNO.out HO2.out HE2.out
    · rw [okG_no (fun h => hso ((rises_set hgd).1 h))] at HST
      have HNO : Hid (¬ PlaOk (n : Int) l xs ys) := fun h => hso h.1
      clear hgd hso
      go_enter Tryd.func21, Tryd.ntmps21
      go_wp2_with fail
      refine (HGD.out).mono ?_
      rintro e w1 ⟨rfl, b1⟩
      have HE1 := Lib.hid (btrans HB0.out b1)
      have HG1 := Lib.hid (HG0.out.below b1 HG0.out.lt)
      have HO1 := Lib.hid (own_below HO0.out b1)
      clear p0 p1 b1
      obtain ⟨p0, p1, -, -⟩ := HG1.out.two
      go_wp2_with fail
      refine (HST.out w1 HE1.out).mono ?_
      rintro e w2 ⟨rfl, b2⟩
      have HE2 := Lib.hid (btrans HE1.out b2)
      have HG2 := Lib.hid (HG1.out.below b2 HG1.out.lt)
      have HO2 := Lib.hid (own_below HO1.out b2)
      clear p0 p1 b2
      go_wp2_with fail
      go_ret2
      exact RetGr.no HNO.out HO2.out HE2.out
  · rw [goodB_no hgd] at HGD
    have HNO : Hid (¬ PlaOk s l xs ys) := fun h => hgd h.1.1
    clear hgd
    go_enter Tryd.func21, Tryd.ntmps21
    go_wp2_with fail
    refine (HGD.out).mono ?_
    rintro e w1 ⟨rfl, b1⟩
    have HE1 := Lib.hid (btrans HB0.out b1)
    have HG1 := Lib.hid (HG0.out.below b1 HG0.out.lt)
    have HO1 := Lib.hid (own_below HO0.out b1)
    clear p0 p1 b1
    go_wp2_with fail
    go_ret2
    exact RetGr.no HNO.out HO1.out HE1.out
theorem pla_len (s : Int) (l : List Ed) (all : Bool) (xs ys : List Int) : gridl.tot (gdG (PlaOk s l xs ys) (rowN (plaN s l all xs ys))) ≤ 1048576 ∧ (gdG (PlaOk s l xs ys) (rowN (plaN s l all xs ys))).length ≤ 1048576 := gd_bound fun h => by
  have h2 := h.2
  unfold plaN
  exact Nat.le_trans (play_len _ _) (by omega)
end Go.Proofs.YtdhbaegkogklgaaDoor.ups
