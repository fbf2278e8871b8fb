/- Guards: the contracts of the model's l10Family and EternalFamily. -/
import Derived.Handy
import Derived.Test.YthpodbhiopnnbaaDoorK23
import Derived.Test.YthpodbhiopnnbaaDoorK22
import Derived.Deep.DeepCutAuto
import Derived.Deep.RegionHeld3
import Derived.Deep.QuietTactic
import Derived.Test.YthpodbhiopnnbaaDoorK16
import Derived.Test.YthpodbhiopnnbaaDoorRows
import Derived.Lib.LaidTab
import Derived.Stop.LaidErr
import Derived.Shelf.Vars
import Derived.Test.YthpodbhiopnnbaaDoorProg
import Derived.Test.YthpodbhiopnnbaaDoorK01
import Derived.Deep.Slices
import Derived.Lib.SmallJoins
import Derived.OpenShut
namespace Go.Proofs.YthpodbhiopnnbaaDoor.ups
open Go.RowKit P2 words edges ints owns good adjs fns sets rets covs bags balls bitsI func lists times apps gridr grid gridl trip minmax
set_option linter.unusedVariables false

/-- behind the first statement of l10Family -/
def CutE (w wx : World) (B : Nat) (L : List Nat) (T : List Int) (a b c : Value) : Prop :=
  ∃ P A5 c5 us A6 c6 C D, a = .slice (some ⟨P, 0, none⟩) 0 0 ∧ b = .slice A5 (rowN L).length c5 ∧ c = .slice A6 T.length c6 ∧ wx.ownsRow B 25 1 (.slice (some ⟨P, 0, none⟩) 0 0) 0 [] ∧ OwnGR C D wx (.slice A5 (rowN L).length c5) us (rowN L) ∧ (P < C ∨ D ≤ P) ∧ B ≤ C ∧ D ≤ wx.heap.size ∧ wx.ownsRow B 3 1 (.slice A6 T.length c6) T.length (cellsI T) ∧ Below B w wx
theorem CutE.mk {w wx : World} {B P : Nat} {L : List Nat} {T : List Int} {A5 : Option Addr} {c5 : Nat} {us : List Value} {A6 : Option Addr} {c6 C D : Nat} (ho : wx.ownsRow B 25 1 (.slice (some ⟨P, 0, none⟩) 0 0) 0 []) (hs : OwnGR C D wx (.slice A5 (rowN L).length c5) us (rowN L)) (hP : P < C ∨ D ≤ P) (hC : B ≤ C) (hD : D ≤ wx.heap.size) (hT : wx.ownsRow B 3 1 (.slice A6 T.length c6) T.length (cellsI T)) (hB : Below B w wx) :
    CutE w wx B L T (.slice (some ⟨P, 0, none⟩) 0 0) (.slice A5 (rowN L).length c5) (.slice A6 T.length c6) := ⟨P, A5, c5, us, A6, c6, C, D, rfl, rfl, rfl, ho, hs, hP, hC, hD, hT, hB⟩
/-- the sets among the first k that are kept -/
def efT (p : Nat → Bool) (L : List Nat) (k : Nat) : List (List Int) := rowN ((L.take k).filter p)
theorem efT_yes {p : Nat → Bool} {L : List Nat} {k a : Nat} (h : L[k]? = some a) (hp : p a = true) : efT p L (k + 1) = efT p L k ++ [ndN a] := by
  unfold efT rowN
  rw [List.take_add_one, h, List.filter_append, List.map_append]; simp [hp]
theorem efT_no {p : Nat → Bool} {L : List Nat} {k a : Nat} (h : L[k]? = some a) (hp : p a = false) : efT p L (k + 1) = efT p L k := by
  unfold efT rowN
  rw [List.take_add_one, h, List.filter_append, List.map_append]; simp [hp]
theorem efT_len (p : Nat → Bool) (L : List Nat) (k : Nat) : (efT p L k).length ≤ L.length := by
  unfold efT
  rw [rowN_len]
  exact Nat.le_trans (List.length_filter_le _ _) (by rw [List.length_take]; omega)
theorem efT_all (p : Nat → Bool) (L : List Nat) : efT p L L.length = rowN (L.filter p) := by unfold efT; rw [List.take_length]
set_option maxHeartbeats 8000000 in
set_option maxRecDepth 100000 in
theorem l10Family_any (n m : Nat) (all : Bool) (v : Value) (l : List Ed) (w : World) (h : Edges w v l) (hl : l.length ≤ 1048576) (hg : P2.Good (n : Int) l) (hn : n ≤ 8) (hm : m ≤ 8) :
    Calls Tryd.prog 61 #[.agg #[.int .i64 (n : Int), v], .int .i64 (m : Int), .bool all] w (RetX w (rowN (efK n l all m))) := by
  obtain ⟨A, c, rfl, -⟩ := h.form
  obtain ⟨i1, hi1, hy0, hy1, hy2⟩ := info_parts infoRow
  obtain ⟨wq, hwq⟩ : ∃ wq, wq = w.alloc (.cells #[.int .i64 (n : Int), .slice A l.length c] 29) := ⟨_, rfl⟩
  have b0 : Below w.heap.size w wq := by rw [hwq]; exact (Below.refl _ _).alloc (Nat.le_refl _) _
  have g0 : Blk wq w.heap.size 29 #[.int .i64 (n : Int), .slice A l.length c] := by rw [hwq]; exact Blk.new _ _ _
  have hz0 : wq.heap.size = w.heap.size + 1 := by rw [hwq]; simp
  obtain ⟨p0, p1, -, -⟩ := g0.two
  have hsl := setsK_len hn hm
  have HS := Lib.hid (fun (W : World) => l10Sets_any n m (.slice A l.length c) W hn hm)
  have HT := Lib.hid (fun (W : World) (hW : Below w.heap.size w W) => l10Known_any n m all (.slice A l.length c) l W (h.below hW) hl hg hn hm)
  have HB0 := Lib.hid b0
  have HG0 := Lib.hid g0
  have HWQ := Lib.hid hwq
  have HZ0 := Lib.hid hz0
  have HSK := Lib.hid (fun (W : World) (hW : Below wq.heap.size wq W) => (⟨(hW.cell (p := ⟨w.heap.size, 0, none⟩) HG0.out.lt).trans p0, (hW.cell (p := ⟨w.heap.size, 1, none⟩) HG0.out.lt).trans p1⟩ : W.cell? ⟨w.heap.size, 0, none⟩ = some (.int .i64 (n : Int)) ∧ W.cell? ⟨w.heap.size, 1, none⟩ = some (.slice A l.length c)))
  have HEF : Hid (efT (fun a => decide (resV n l all (setsK n m) a < 0)) (setsK n m) (setsK n m).length = rowN (efK n l all m)) := efT_all _ _
  have HTA : Hid (∀ i a, (setsK n m)[i]? = some a → ((setsK n m).map (resV n l all (setsK n m)))[i]? = some (resV n l all (setsK n m) a)) := fun i a h => by rw [List.getElem?_map, h]; rfl
  have HTL : Hid (((setsK n m).map (resV n l all (setsK n m))).length = (setsK n m).length) := List.length_map _
  clear h hg b0 g0 hwq hz0
  generalize efK n l all m = EF at *
  generalize resV n l all (setsK n m) = RV at *
  generalize setsK n m = LK at *
  generalize LK.map RV = T at *
  go_enter Tryd.func61, Tryd.ntmps61
  rw [HWQ.out] at p0 p1
  go_wp2_with fail
  rw [← HWQ.out] at p0 p1 ⊢
  go_cut [7, 8, 9] (fun a b c wx => CutE w wx w.heap.size LK T a b c)
  case first =>
    go_region_held3 (fun w' => w'.cell? ⟨w.heap.size, 0, none⟩ = some (.int .i64 (n : Int)) ∧ w'.cell? ⟨w.heap.size, 1, none⟩ = some (.slice A l.length c)) (first | go_keep | exact HSK.out _ d4 | exact HSK.out _ (d4.alloc d4.size _) | exact HSK.out _ d3 | exact HSK.out _ (d3.alloc d3.size _)) (first
      | (go_at_call 46; have D3 : Below wq.heap.size wq wq.drew := (Below.refl _ _).drew; (with_reducible refine (HS.out wq.drew).mono ?_); rintro e w3 ⟨A5, c5, us, rfl, o5, b3⟩; have d3 : Below wq.heap.size wq w3 := btrans D3 b3; have z3 := D3.size; have s3 := b3.size; have e3 := btrans HB0.out d3)
      | (go_at_call 46; have D3 : Below wq.heap.size wq (wq.alloc (.cells #[] 25)).drew := ((Below.refl _ _).alloc (Nat.le_refl _) _).drew; (with_reducible refine (HS.out (wq.alloc (.cells #[] 25)).drew).mono ?_); rintro e w3 ⟨A5, c5, us, rfl, o5, b3⟩; have d3 : Below wq.heap.size wq w3 := btrans D3 b3; have z3 := D3.size; have s3 := b3.size; have e3 := btrans HB0.out d3; have n3 : w3.ownsRow wq.heap.size 25 1 (.slice (some ⟨wq.heap.size, 0, none⟩) 0 0) 0 [] := own_below (own_new0 wq.drew 25 1) b3)
      | (go_at_call 56; (with_reducible refine (HT.out w3 e3).mono ?_); rintro e w4 ⟨A6, c6, rfl, o6, b4⟩; have d4 : Below wq.heap.size wq w4 := btrans d3 b4; have e4 := btrans HB0.out d4; have s4 := b4.size; have q5 := (gridl.OwnGR.new o5).below b4; (try (have n4 := own_below n3 b4)))
      | (go_at_call 56; (with_reducible refine (HT.out (w3.alloc (.cells #[] 25)) (e3.alloc e3.size _)).mono ?_); rintro e w4 ⟨A6, c6, rfl, o6, b4⟩; have d4 : Below wq.heap.size wq w4 := btrans (d3.alloc d3.size _) b4; have e4 := btrans HB0.out d4; have s4 := b4.size; have q5 := ((gridl.OwnGR.new o5).below ((Below.refl _ _).alloc (Nat.le_refl _) _)).below b4; have n4 : w4.ownsRow w3.heap.size 25 1 (.slice (some ⟨w3.heap.size, 0, none⟩) 0 0) 0 [] := own_below (own_new0 w3 25 1) b4))
    all_goals (go_wp2_with fail; go_meet)
    all_goals
      have y1 := HZ0.out; have y2 := HB0.out.size; have y3 := d3.size; have y4 : (wq.alloc (.cells #[] 25)).drew.heap.size = wq.heap.size + 1 := by simp
      first
        | exact CutE.mk (own_base n4 (by omega)) q5 (.inl (by omega)) (by omega) (by omega) (own_base o6 e3.size) e4
        | exact CutE.mk (own_base n4 (by omega)) q5 (.inr (by omega)) (by omega) (by rw [World.size_alloc] at s4; omega) (own_base o6 (Nat.le_trans e3.size (by rw [World.size_alloc]; exact Nat.le_succ _))) e4
        | exact CutE.mk (own_base (own_new0 w4 25 1) (by omega)) (q5.below ((Below.refl _ _).alloc (Nat.le_refl _) _)) (.inr (by omega)) (by omega) (by rw [World.size_alloc]; omega) (own_below (own_base o6 e3.size) ((Below.refl _ _).alloc (Nat.le_refl _) _)) (e4.alloc e4.size _)
  case rest =>
    obtain ⟨P, A5, c5, us, A6, c6, C, D, rfl, rfl, rfl, ho, hs, hP, hC, hD, hT, hB⟩ := hcut
    have HPK : Hid (Pick wc w.heap.size C D 0 (.slice (some ⟨P, 0, none⟩) 0 0) (.slice A5 (rowN LK).length c5) [] us (efT (fun a => decide (RV a < 0)) LK 0) (rowN LK)) :=
      ⟨⟨ho, fun i u r hu => by simp at hu, fun i j u u' k _ hu => by simp at hu⟩, hs, fun u hu => by simp at hu, fun k hk => by simp [Value.ownBlock] at hk; omega, hC, hD⟩
    have HT6 := Lib.hid hT
    have HBC := Lib.hid hB
    have HRL := Lib.hid (rowN_len LK)
    clear ho hs hT hB hP p0 p1 HS HT HSK HG0 HB0
    go_wp2_with fail
    go_loopg [7, 10] LK.length (fun g ov iv wr => ∃ (i : Nat) (ow : Value) (os : List Value), ow = ov ∧ i + g = LK.length ∧ iv = .int .i64 (i : Int) ∧ Pick wr w.heap.size C D i ow (.slice A5 (rowN LK).length c5) os us (efT (fun a => decide (RV a < 0)) LK i) (rowN LK) ∧ wr.ownsRow w.heap.size 3 1 (.slice A6 T.length c6) T.length (cellsI T) ∧ Below w.heap.size w wr)
    case atStart => exact ⟨0, _, [], rfl, by omega, rfl, HPK.out, HT6.out, HBC.out⟩
    case round =>
      clear HPK HT6 HBC
      obtain ⟨i, ow, os, rfl, hig, rfl, hpk, hT, hB⟩ := hrel
      obtain ⟨A7, c7, rfl⟩ := own_form hpk.1.1
      have HB := Lib.hid hB
      have HPK := Lib.hid hpk
      have HTB := Lib.hid hT
      cases gk with
      | zero =>
        obtain rfl : i = LK.length := by omega
        have hnl : ¬ ((LK.length : Int) < ((rowN LK).length : Int)) := by rw [HRL.out]; omega
        clear hpk hT hB
        go_wp2_with fail
        go_ret
        have h_ := HPK.out.1
        rw [HEF.out] at h_ ⊢
        exact ⟨_, _, os, rfl, h_, HB.out⟩
      | succ g2 =>
        have hlt : i < LK.length := by omega
        have hlt' : (i : Int) < (LK.length : Int) := by omega
        have hil' : (i : Int) < ((rowN LK).length : Int) := by rw [HRL.out]; omega
        have hit' : (i : Int) < (T.length : Int) := by rw [HTL.out]; omega
        obtain ⟨a, ha⟩ : ∃ a, LK[i]? = some a := ⟨_, List.getElem?_eq_getElem hlt⟩
        have hta := HTA.out i a ha
        obtain ⟨gp, hgp, cp, -, -⟩ := own_at (i := i) hT (show (cellsI T)[i]? = some (.int .i64 (RV a)) from by simp [cellsI, hta])
        subst hgp
        by_cases hneg : RV a < 0
        · have HN := Lib.hid (efT_yes (p := fun a => decide (RV a < 0)) ha (decide_eq_true hneg))
          obtain ⟨u, g5, o5, hu, hA5, cs, hru⟩ := (gridl.readsG_of_own hpk.2.1.1).row (rowN_at ha)
          subst hA5
          obtain ⟨Ar, cr, rfl, -⟩ := hru.form
          have HRD := Lib.hid (rowN_at ha)
          have HU5 := Lib.hid hu
          have hOl := efT_len (fun a => decide (RV a < 0)) LK i
          have hul : os.length ≤ 256 := by have := hpk.1.len; omega
          have hown0 := hpk.1.1
          have hsz := hB.size
          clear ha hta hru hu hpk hT hB
          generalize efT (fun a => decide (RV a < 0)) LK i = Oj at *
          generalize RV a = ra at *
          go_wp2_with (at_builtin; refine wpList_append_own_at _ rfl _ _ 35 rfl w.heap.size 25 i1 (.slice none 0 0) 1 24 Tryd.underlying35 hi1 hy0 hy1 hy2 rfl (by decide) _ _ _ rfl (hown0.alloc _) ⟨wr.heap.size, 0, none⟩ 1 1 [.slice Ar (ndN a).length cr] rfl rfl (cell_one_new _ _ _) (fun x hx => by simp at hx; subst hx; rfl) (by unfold maxLen; omega) (by omega) (by simp; omega) ?_; intro v10 w10 hown10 hgrow10 _ hl10)
          have HPK2 := Lib.hid (HPK.out.push HU5.out HRD.out (Nat.le_refl _) hown10 hgrow10 hl10)
          have HT2 : Hid (w10.ownsRow w.heap.size 3 1 (.slice (some ⟨gp, 0, none⟩) T.length c6) T.length (cellsI T)) := (HTB.out.alloc _).kept hgrow10 (by
            cases hh : (Value.slice (some ⟨gp, 0, none⟩) T.length c6).ownBlock with
            | none => exact .inl rfl
            | some k => exact .inr fun e => own_apart HTB.out hown0 tneI k hh e.symm)
          have HB10 := Lib.hid ((HB.out.alloc hsz (.cells #[.slice Ar (ndN a).length cr] 25)).grown hgrow10 (by simp; omega) (fun p_ e_ => (hown0.lt p_ e_).1))
          clear hown10 hgrow10 hl10 hown0 cp cs
          go_roundg g2
          case measure => omega
          case rel => exact ⟨i + 1, v10, _, rfl, by omega, by go_num, by rw [HN.out]; exact HPK2.out, HT2.out, HB10.out⟩
        · have HN := Lib.hid (efT_no (p := fun a => decide (RV a < 0)) ha (decide_eq_false hneg))
          have HPK2 := Lib.hid (HPK.out.more (Nat.le_succ i))
          clear ha hta hpk hT hB
          generalize RV a = ra at *
          go_wp2_with fail
          go_roundg g2
          case measure => omega
          case rel => exact ⟨i + 1, _, os, rfl, by omega, by go_num, by rw [HN.out]; exact HPK2.out, HTB.out, HB.out⟩
set_option maxHeartbeats 4000000 in
set_option maxRecDepth 100000 in
theorem specEf_any (s k : Int) (all : Bool) (v : Value) (l : List Ed) (w : World) (h : Edges w v l) (hl : l.length ≤ 1048576) (hs1 : -9223372036854775808 ≤ s) (hs2 : s ≤ 9223372036854775807) :
    Calls Tryd.prog 26 #[.agg #[.int .i64 s, v], .int .i64 k, .bool all] w (RetGr w (EfOk s l all k) (rowN (efN s l all k))) := by
  obtain ⟨A, c, rfl, -⟩ := h.form
  have H := Lib.hid h
  have b0 : Below w.heap.size w (w.alloc (.cells #[.int .i64 s, .slice A l.length c] 29)) := (Below.refl _ _).alloc (Nat.le_refl _) _
  have g0 := Blk.new w 29 #[.int .i64 s, .slice A l.length c]
  obtain ⟨p0, p1, -, -⟩ := g0.two
  have HN := Lib.hid (l10Good_any s k _ l _ (h.below b0) hl hs1 hs2)
  have HB0 := Lib.hid b0
  have HG0 := Lib.hid g0
  clear h b0 g0
  by_cases hok : GrdOk s l k
  · rw [okG_yes hok] at HN
    have HOK := Lib.hid hok
    have h0 := hok.1.1
    have h8 := hok.1.2.1
    have hk0 := hok.2.1
    have hks := hok.2.2
    obtain ⟨n, rfl⟩ : ∃ n : Nat, s = (n : Int) := ⟨s.toNat, by omega⟩
    obtain ⟨m, rfl⟩ : ∃ m : Nat, k = (m : Int) := ⟨k.toNat, by omega⟩
    have hn : n ≤ 8 := by omega
    have hm : m ≤ 8 := by omega
    have HV : Hid (efN (n : Int) l all (m : Int) = efK n l all m) := by show _ = _; unfold efN; rw [Int.toNat_natCast, Int.toNat_natCast]
    have HFA := Lib.hid (fun (W : World) (hW : Below w.heap.size w W) => l10Family_any n m all (.slice A l.length c) l W (H.out.below hW) hl hok.1 hn hm)
    have HLN := Lib.hid (rowN_len (efK n l all m))
    clear hok
    generalize efK n l all m = F at *
    go_enter Tryd.func26, Tryd.ntmps26
    go_wp2_with fail
    refine HN.out.mono ?_
    rintro e w1 ⟨rfl, b1⟩
    have HE1 := Lib.hid (btrans HB0.out b1)
    have HG1 := Lib.hid (HG0.out.below b1 HG0.out.lt)
    clear p0 p1 b1 HN HB0 HG0
    obtain ⟨p0, p1, -, -⟩ := HG1.out.two
    by_cases hne : 0 < F.length
    · have hne' : (0 : Int) < ((rowN F).length : Int) := by rw [HLN.out]; omega
      have HY : Hid (EfOk (n : Int) l all (m : Int)) := ⟨HOK.out, by rw [HV.out]; exact List.length_pos_iff.1 hne⟩
      have hd : decide (0 < (rowN F).length) = true := decide_eq_true (by rw [HLN.out]; exact hne)
      clear hne
      go_wp2_with fail
      refine (HFA.out w1 HE1.out).mono ?_
      rintro e w2 ⟨A2, c2, us, rfl, o2, b2⟩
      go_wp2_with fail
      go_ret2
      rw [HV.out]
      exact RetGr.yes HY.out (o2.base HE1.out.size) (btrans HE1.out b2)
    · obtain rfl : F = [] := List.length_eq_zero_iff.1 (by omega)
      have HY : Hid (¬ EfOk (n : Int) l all (m : Int)) := fun h => h.2 HV.out
      have hr0 : rowN [] = [] := rfl
      rw [hr0] at HFA
      clear hne hr0
      go_wp2_with fail
      refine (HFA.out w1 HE1.out).mono ?_
      rintro e w2 ⟨A2, c2, us, rfl, o2, b2⟩
      go_wp2_with fail
      go_ret2
      have o8 := (o2.base HE1.out.size).1
      obtain rfl : us = [] := List.length_eq_zero_iff.1 o2.len
      exact RetGr.no HY.out o8 (btrans HE1.out b2)
  · rw [okG_no hok] at HN
    have HNO : Hid (¬ EfOk s l all k) := fun h => hok h.1
    clear hok
    go_enter Tryd.func26, Tryd.ntmps26
    go_wp2_with fail
    refine HN.out.mono ?_
    rintro e w1 ⟨rfl, b1⟩
    have HE1 := Lib.hid (btrans HB0.out b1)
    clear p0 p1 b1
    go_wp2_with fail
    go_ret2
    exact RetGr.no HNO.out (own_base (own_new0 w1 25 1) HE1.out.size) (HE1.out.alloc HE1.out.size _)
theorem ef_len (s k : Int) (l : List Ed) (all : Bool) : gridl.tot (gdG (EfOk s l all k) (rowN (efN s l all k))) ≤ 1048576 ∧ (gdG (EfOk s l all k) (rowN (efN s l all k))).length ≤ 1048576 := gd_bound fun h => by
  have h8 := h.1.1.2.1
  have hk := h.1.2.2
  exact efK_len (by omega) (by omega)
end Go.Proofs.YthpodbhiopnnbaaDoor.ups

/- What the row's list says of the table of math/bits. -/
namespace Go.Proofs.YthpodbhiopnnbaaDoor.least
open Go.RowKit

theorem gTab : Tryd.prog.globalNamed "math/bits.deBruijn64tab" = some 1 := by kernel_rfl
theorem gTabType : (Tryd.prog.globals[1]?).map (·.type) = some 129 := by kernel_rfl
theorem cellsTab : Tryd.prog.cellsOf 129 = 64 := by kernel_rfl
theorem cellsU8 : Tryd.prog.cellsOf 5 = 1 := by kernel_rfl
theorem env_of {W : World} {x : String × DataW Unit} {r : List (String × DataW Unit)} (h : laidMet Tryd.prog (x :: ("math/bits.deBruijn64tab", Rows.laid_math_bits_deBruijn64tab) :: r) W) : Env W := by
  have ht : Lib.TabIs Tryd.prog W "math/bits.deBruijn64tab" .u8 (Lib.deBruijn64tab.map fun a : Nat => (a : Int)) := Lib.tabIs_of_head gTab gTabType Tryd.underlying129 Tryd.underlying5 cellsU8 cellsTab h.tail
  intro j hj
  rw [ht.cell gTab j (by simpa using hj)]
  simp [List.getD_eq_getElem?_getD, hj]
end Go.Proofs.YthpodbhiopnnbaaDoor.least

/- Arguments of the laws, opened: a Graph as it came in, a slice of integers as it came in. -/
namespace Go.Proofs.YthpodbhiopnnbaaDoor.opens
open Go.RowKit Go.Joins Go.ChangeShapes Go.WideShapes Go.Deep P2 words

theorem addr_add (g o j : Nat) : (⟨g, o, none⟩ : Addr).add j = ⟨g, o + j, none⟩ := by unfold Addr.add; split <;> simp_all
theorem add_of_add (a : Addr) (i j : Nat) : (a.add i).add j = a.add (i + j) := by
  unfold Addr.add
  by_cases hi : i = 0 <;> by_cases hj : j = 0 <;> simp [hi, hj, Nat.add_assoc]

/-- what is told of a Graph that came in -/
def IsGr (w : World) (s : Int) (v : Value) (l : List Ed) : Prop :=
  Edges w v l ∧ l.length ≤ maxLen ∧ -9223372036854775808 ≤ s ∧ s ≤ 9223372036854775807

theorem bounds64 {n : Int} (h : (Lit.int .i64 n).wf = true) : -9223372036854775808 ≤ n ∧ n ≤ 9223372036854775807 := by
  simp [Lit.wf, IntKind.min, IntKind.max, IntKind.signed, IntKind.bits] at h
  omega

/-- what is told of a slice of integers that came in -/
def IsIn (w : World) (v : Value) (l : List Int) : Prop := Ints w v l ∧ l.length ≤ maxLen ∧ ∀ x ∈ l, -9223372036854775808 ≤ x ∧ x ≤ 9223372036854775807

section
variable {H : Type} {enc : TypeId × Value → H} {w : World} {spare : Nat → Bool} {held : Bool}
theorem open_edges {fuel : Nat} {v : Value} {x : DataW H × List MemPlace} (h : DataW.trod enc Tryd.prog w 0 spare held fuel 22 [v] = some x) :
    ∃ l : List Ed, Edges w v l ∧ l.length ≤ maxLen := by
  rcases open_slice Tryd.underlying22 h with ⟨hv, _⟩ | ⟨a, len, cap, m, n, D, Pl, hv, _, hl, hm, hmm, _, hi⟩
  · obtain rfl : v = .slice none 0 0 := by simpa using hv
    exact ⟨[], Reads.nil _ _, Nat.zero_le _⟩
  · obtain rfl : v = .slice (some a) len cap := by simpa using hv
    have hlm : len ≤ m := by rw [hmm]; split <;> omega
    have hC : Tryd.prog.cellsOf 93 = 2 := by kernel_rfl
    have hC1 : Tryd.prog.cellsOf 3 = 1 := by kernel_rfl
    rw [hC] at hi
    have key : ∀ i, i < len → ∃ e : Ed, w.cell? (a.add (i * 2)) = some (.int .i64 e.1) ∧ w.cell? (a.add (i * 2 + 1)) = some (.int .i64 e.2) := fun i hil => by
      obtain ⟨cs', hc, ht⟩ := hi i (by omega)
      obtain ⟨xs, m', _, _, _, hxl, he⟩ := DataW.trod_array Tryd.underlying93 ht
      obtain ⟨_, hcl, hat⟩ := World.cells?_some hc
      rw [hC1] at he
      match cs', hcl with
      | [c0, c1], _ =>
        match xs, hxl with
        | [y0, y1], _ =>
          have e0 : DataW.trod enc Tryd.prog w 0 spare held m' 3 [c0] = some y0 := he 0 (by decide)
          have e1 : DataW.trod enc Tryd.prog w 0 spare held m' 3 [c1] = some y1 := he 1 (by decide)
          obtain ⟨n0, h0, _, _⟩ := DataW.trod_int Tryd.underlying3 e0
          obtain ⟨n1, h1, _, _⟩ := DataW.trod_int Tryd.underlying3 e1
          obtain rfl : c0 = .int .i64 n0 := by simpa using h0
          obtain rfl : c1 = .int .i64 n1 := by simpa using h1
          have a0 := hat 0 (by decide)
          have a1 := hat 1 (by decide)
          rw [add_of_add] at a0 a1
          exact ⟨(n0, n1), by simpa using a0, by simpa using a1⟩
    obtain ⟨f, hf⟩ := choose_lt (α := Ed) key
    refine ⟨(List.range len).map f, ⟨some a, cap, by simp, fun hn => ?_⟩, by simp; omega⟩
    simp only [List.length_map, List.length_range] at hn ⊢
    obtain ⟨b, off, spot⟩ := a
    have hc0 := (hf 0 hn).1
    have hspot : spot = none := by simpa [Addr.add] using World.cell?_spot hc0
    subst hspot
    refine ⟨b, off, rfl, hl, fun j u hu => ?_⟩
    have hjl : j < len * 2 := by
      have := (List.getElem?_eq_some_iff.1 hu).1
      rw [cellsE_len] at this; simpa using this
    obtain ⟨k, hk⟩ : ∃ k, k = j / 2 := ⟨_, rfl⟩
    have hkl : k < len := by omega
    have hkf : ((List.range len).map f)[k]? = some (f k) := by simp [hkl]
    have hck := cellsE_at hkf
    have hcl := hf k hkl
    rw [addr_add, addr_add] at hcl
    rcases Nat.mod_two_eq_zero_or_one j with h0 | h0
    · obtain rfl : j = k * 2 := by omega
      rw [hck.1] at hu
      rw [hcl.1, ← hu]
    · obtain rfl : j = k * 2 + 1 := by omega
      rw [hck.2] at hu
      rw [hcl.2, ← hu]

set_option maxRecDepth 100000 in
theorem open_graph {r : Reach} {b0 : Nat} {v : Value} {d : DataW H} {p : List MemPlace} (hv : Value.okWide Tryd.prog w r b0 24 v)
    (h : DataW.Trod enc Tryd.prog w 0 spare held 24 v d p) : ∃ s u l, v = .agg #[.int .i64 s, u] ∧ IsGr w s u l := by
  obtain ⟨c0, c1, y0, y1, m, rfl, _, _, h0, h1⟩ := open_agg2 Tryd.underlying24 (by kernel_rfl) (by kernel_rfl) hv h
  obtain ⟨n0, k0, _, w0⟩ := DataW.trod_int Tryd.underlying3 h0
  obtain rfl : c0 = .int .i64 n0 := by simpa using k0
  obtain ⟨l, he, hl⟩ := open_edges h1
  exact ⟨n0, c1, l, rfl, he, hl, bounds64 w0⟩

set_option maxRecDepth 100000 in
theorem open_intsl {r : Reach} {b0 : Nat} {v : Value} {d : DataW H} {p : List MemPlace} (hv : Value.okWide Tryd.prog w r b0 25 v)
    (h : DataW.Trod enc Tryd.prog w 0 spare held 25 v d p) : ∃ u l, v = u ∧ IsIn w u l := by
  obtain ⟨A, len, cap, rfl⟩ := okWide_slice Tryd.underlying25 hv
  obtain ⟨fuel, hf⟩ := h
  simp only [Value.cells] at hf
  rcases open_slice Tryd.underlying25 hf with ⟨hv, _⟩ | ⟨a, len', cap', m, n, D, Pl, hv, _, hl, hm, hmm, _, hi⟩
  · have e : Value.slice A len cap = .slice none 0 0 := by simpa using hv
    rw [e]
    exact ⟨_, [], rfl, Reads.nil _ _, Nat.zero_le _, fun x hx => by cases hx⟩
  · have e : Value.slice A len cap = .slice (some a) len' cap' := by simpa using hv
    rw [e]
    have hlm : len' ≤ m := by rw [hmm]; split <;> omega
    have hC1 : Tryd.prog.cellsOf 3 = 1 := by kernel_rfl
    rw [hC1] at hi
    have key : ∀ i, i < len' → ∃ x : Int, w.cell? (a.add i) = some (.int .i64 x) ∧ (Lit.int .i64 x).wf = true := fun i hil => by
      obtain ⟨cs', hc, ht⟩ := hi i (by omega)
      obtain ⟨_, hcl, hat⟩ := World.cells?_some hc
      match cs', hcl with
      | [c0], _ =>
        obtain ⟨n0, h0, _, hw⟩ := DataW.trod_int Tryd.underlying3 ht
        obtain rfl : c0 = .int .i64 n0 := by simpa using h0
        have a0 := hat 0 (by decide)
        rw [add_of_add, Nat.mul_one] at a0
        exact ⟨n0, by simpa using a0, hw⟩
    obtain ⟨f, hf⟩ := choose_lt (α := Int) key
    refine ⟨_, (List.range len').map f, rfl, ⟨some a, cap', by simp, fun hn => ?_⟩, by simp; omega, fun x hx => ?_⟩
    · simp only [List.length_map, List.length_range] at hn ⊢
      obtain ⟨b, off, spot⟩ := a
      have hc0 := (hf 0 hn).1
      have hspot : spot = none := by simpa [Addr.add] using World.cell?_spot hc0
      subst hspot
      refine ⟨b, off, rfl, hl, fun j u hu => ?_⟩
      have hjl : j < len' := by
        have := (List.getElem?_eq_some_iff.1 hu).1
        rw [cellsI_len] at this; simpa using this
      have hcl := (hf j hjl).1
      rw [addr_add] at hcl
      have hkf : ((List.range len').map f)[j]? = some (f j) := by simp [hjl]
      rw [cellsI_at hkf] at hu
      rw [hcl, ← hu]
    · simp only [List.mem_map, List.mem_range] at hx
      obtain ⟨j, hj, rfl⟩ := hx
      exact bounds64 (hf j hj).2
end
end Go.Proofs.YthpodbhiopnnbaaDoor.opens
