/- The contracts of PartsOf and IsConnected: of the program and of the model. -/
import Derived.Handy
import Derived.Test.YtkpkmfpdhanpiaaPartN
import Derived.Test.YtkpkmfpdhanpiaaWhole
import Derived.Deep.DeepCutAuto
import Derived.Deep.RegionHeld3
namespace Go.Proofs.Ytkpkmfpdhanpiaa.parto
open Go.RowKit P2 words edges ints owns good near adjs fns rets nearv sets covs grid reach rad dists disto
set_option linter.unusedVariables false

theorem grid_cell {w : World} {B i n c : Nat} {A : Option Addr} {us : List Value} {u : Value} (h : w.ownsRow B 41 1 (.slice A n c) n us) (hu : us[i]? = some u) :
    ∃ g, A = some ⟨g, 0, none⟩ ∧ w.cell? ⟨g, i, none⟩ = some u ∧ B ≤ g ∧ g < w.heap.size := by
  have hi := (List.getElem?_eq_some_iff.1 hu).1
  have hl := h.1
  rcases h.2 with ⟨hf, _⟩ | ⟨g, cap, cur, hf, _⟩
  · have := congrArg (fun v => match v with | .slice _ n _ => n | _ => 0) hf
    simp at this
    omega
  · obtain ⟨rfl, rfl⟩ : A = some ⟨g, 0, none⟩ ∧ c = cap := by simpa using hf
    have := h.cellAt i (by omega)
    rw [hu] at this
    exact ⟨g, rfl, this, (h.lt g rfl).1, (h.lt g rfl).2⟩
theorem row_of {w : World} {B n x : Nat} {A : Option Addr} {c : Nat} {us : List Value} {l : List Ed} (h : OwnG w B (.slice A (distG n l).length c) us (distG n l)) (hx : x < n) :
    ∃ g A5 c5, A = some ⟨g, 0, none⟩ ∧ w.cell? ⟨g, x, none⟩ = some (.slice A5 n c5) ∧ Ints w (.slice A5 n c5) (dist n (J1 l) x) := by
  obtain ⟨u5, hu5, o5⟩ := h.row (distTo_at n l hx)
  obtain ⟨A5, c5, rfl⟩ := own_form o5
  obtain ⟨g, rfl, f5, _⟩ := grid_cell h.1 hu5
  have hd := dist_len (J1 l) hx
  have hi : Ints w (.slice A5 (dist n (J1 l) x).length c5) (dist n (J1 l) x) := Reads.of_own o5
  rw [hd] at f5 hi
  exact ⟨g, A5, c5, rfl, f5, hi⟩
theorem partClo_any (y : Nat) (bd : Nat) (v : Value) (D : List Int) (w : World) (h1 : w.cell? ⟨bd, 0, none⟩ = some v) (hv : Ints w v D) (hy : y < D.length) :
    Calls Try.prog 23 #[.int .i64 (y : Int), .pointer (some ⟨bd, 0, none⟩)] w fun e w' => e = .returned (.bool (decide (0 ≤ fn D y))) ∧ w = w' := by
  obtain ⟨A, c, rfl, hc⟩ := hv.form
  obtain ⟨d, hd⟩ : ∃ d, D[y]? = some d := ⟨_, List.getElem?_eq_getElem hy⟩
  obtain ⟨g, o, rfl, t0⟩ := hc y d hd
  rw [fn_at hd]
  have hy' : (y : Int) < (D.length : Int) := by omega
  have hy0 : (0 : Int) ≤ (y : Int) := by omega
  clear hc hd hv
  go_enter Try.func23, Try.ntmps23
  go_wp2_with fail
  go_ret
  exact ⟨rfl, rfl⟩
theorem partClo_fn (n x bd : Nat) (v : Value) (l : List Ed) (w : World) (h1 : w.cell? ⟨bd, 0, none⟩ = some v) (hv : Ints w v (dist n (J1 l) x)) (hx : x < n) :
    Fn1 w 23 #[.pointer (some ⟨bd, 0, none⟩)] n (partB n l x) where
  enter := fun _ _ => by kernel_rfl
  call := fun W hb y hyn => (partClo_any y bd v _ W (nearv.cell_keep h1 hb) (hv.below hb) (by rw [dist_len _ hx]; exact hyn)).mono fun _ _ ⟨he, hw⟩ => ⟨he, hw ▸ Below.refl _ _⟩
set_option maxHeartbeats 4000000 in
set_option maxRecDepth 100000 in
theorem implPartO_any (s : Int) (v : Value) (l : List Ed) (w : World) (h : Edges w v l) (hl : l.length ≤ 1048576) :
    Calls Try.prog 8 #[.agg #[.int .i64 s, v]] w (RetGr w (P2.Good s l) (partsA s.toNat l)) := by
  obtain ⟨A, c, rfl, -⟩ := h.form
  have hmf : ∀ (fn : Fn) (first cap : Array Value) (w : World), (Instr.makeFunc fn first cap).run Try.prog w = .ok (.func fn first cap) w := fun _ _ _ _ => rfl
  have b0 : Below w.heap.size w (w.alloc (.cells #[.int .i64 s, .slice A l.length c] 29)) := (Below.refl _ _).alloc (Nat.le_refl _) _
  have g0 := Blk.new w 29 #[.int .i64 s, .slice A l.length c]
  have HD := Lib.hid (implDistO_any s _ l _ (h.below b0) hl)
  clear h
  by_cases hgd : P2.Good s l
  · have h0 := hgd.1
    have h8 := hgd.2.1
    obtain ⟨n, rfl⟩ : ∃ n : Nat, s = (n : Int) := ⟨s.toNat, by omega⟩
    rw [Int.toNat_natCast] at HD ⊢
    unfold RetGr at HD
    rw [gdG_yes hgd, okG_yes hgd] at HD
    obtain ⟨i1, hi1, hy0, hy1, hy2⟩ := info_parts infoRow
    have HLEN := Lib.hid (distG_len n l)
    have HGD := Lib.hid hgd
    have hn8 : n ≤ 8 := by omega
    clear hgd
    go_enter Try.func8, Try.ntmps8
    go_wp2_with fail
    refine HD.out.mono ?_
    rintro e w1 ⟨A1, c1, us, rfl, o1, b1⟩
    have e1 := btrans b0 b1
    have HG1 := Lib.hid (g0.below b1 g0.lt)
    have HO := Lib.hid o1
    have HE := Lib.hid e1
    clear HD b0 b1 g0 o1 e1
    go_wp2_with fail
    go_loopg [6, 19] n (fun g ov iv wr => ∃ (k : Nat) (ow : Value) (us2 : List Value), ow = ov ∧ k + g = n ∧ iv = .int .i64 (k : Int) ∧ OwnG wr w1.heap.size ow us2 (partsP n l k) ∧ Below w1.heap.size w1 wr)
    case atStart => exact ⟨0, _, [], rfl, by omega, rfl, OwnG.nil _ _, Below.refl _ _⟩
    case round =>
      obtain ⟨k, ow, us2, rfl, hkg, rfl, hG, hB⟩ := hrel
      have hlen := HLEN.out
      cases gk with
      | zero =>
        obtain rfl : k = n := by omega
        rw [partsP_all] at hG
        obtain ⟨A4, c4, rfl⟩ := own_form hG.1
        have hl9 : ¬ (k : Int) < ((distG k l).length : Int) := by omega
        have hl8 : decide ((k : Int) < ((distG k l).length : Int)) = false := decide_eq_false hl9
        have HR := Lib.hid (hG.base HE.out.size)
        have HB := Lib.hid (btrans HE.out hB)
        clear hlen hG hB
        go_wp2_with fail
        go_ret2
        exact RetGr.yes HGD.out HR.out HB.out
      | succ g2 =>
        have hk : k < n := by omega
        have hkl : (k : Int) < ((distG n l).length : Int) := by omega
        have hkl2 : decide ((k : Int) < ((distG n l).length : Int)) = true := decide_eq_true hkl
        obtain ⟨gr, A5, c5, rfl, f5, hI⟩ := row_of (HO.out.below hB) hk
        have hgb := HG1.out.below hB HG1.out.lt
        obtain ⟨p0, p1, -, -⟩ := hgb.two
        have hsz := hgb.lt
        have F := Lib.hid (partClo_fn n k wr.heap.size (.slice A5 n c5) l (wr.alloc (.cells #[.slice A5 n c5] 41)) ((Blk.new wr 41 #[.slice A5 n c5]).cell 0) (hI.below ((Below.refl _ _).alloc (Nat.le_refl _) _)) hk)
        have HHD := Lib.hid (fun (z : Int) (hz : (nw (partB n l k) n)[0]? = some z) => part_head hk hz)
        have HIN := Lib.hid (part_in (l := l) hk)
        have HY := Lib.hid (partsP_yes (l := l) hk)
        have HN := Lib.hid (partsP_no (l := l) hk)
        have hrl := nw_len (partB n l k) n
        have htl : (partsP n l k).length ≤ n := partsT_len k
        have HG := Lib.hid hG
        have HB := Lib.hid hB
        generalize partB n l k = pb at *
        generalize leastB n (J1 l) allQ k = lb at *
        clear hlen hG hB hgb hI
        go_wp2_with fail
        refine (nodesWhere_any n 23 _ _ _ hn8 F.out).mono ?_
        rintro e w4 ⟨A4, c4, rfl, o4, b4⟩
        have d4 : Below wr.heap.size wr w4 := ((Below.refl _ _).alloc (Nat.le_refl _) _).trans (b4.mono (by simp))
        have HU := Lib.hid (own_base (B' := wr.heap.size) o4 (by simp))
        obtain ⟨z, hz⟩ : ∃ z, (nw pb n)[0]? = some z := by
          have := List.length_pos_of_mem HIN.out
          exact ⟨_, List.getElem?_eq_getElem this⟩
        have hpos : (0 : Int) < ((nw pb n).length : Int) := by have := List.length_pos_of_mem HIN.out; omega
        obtain ⟨_, _, hf, hcc⟩ := (show Ints w4 (.slice A4 (nw pb n).length c4) (nw pb n) from Reads.of_own o4).form
        cases hf
        obtain ⟨g6, o6, rfl, q6⟩ := hcc 0 z hz
        rw [Nat.add_zero] at q6
        have hd0 := HHD.out z hz
        have HD4 := Lib.hid d4
        clear F HHD HIN hz hcc o4 b4 d4 f5 p0 p1
        cases lb with
        | false =>
          have HNN := Lib.hid (HN.out rfl)
          have HG4 := Lib.hid (HG.out.below HD4.out)
          have HB4 := Lib.hid (btrans HB.out HD4.out)
          clear HY HN
          go_wp2_with fail
          go_roundg g2
          case measure => omega
          case rel => exact ⟨k + 1, _, us2, rfl, by omega, by go_num, by rw [← HNN.out]; exact HG4.out, HB4.out⟩
        | true =>
          have HYY := Lib.hid (HY.out rfl)
          have hG4 := HG.out.below HD4.out
          have HB4 := Lib.hid (btrans HB.out HD4.out)
          have hown5 := hG4.1
          have hul : us2.length ≤ 8 := by rw [HG.out.len]; omega
          have hszw := HB.out.size
          have hszw2 := HD4.out.size
          clear HY HN hG4
          generalize partsP n l k = rows at *
          obtain ⟨A9, c9, rfl⟩ := own_form hown5
          go_wp2_with (at_builtin; refine wpList_append_own _ rfl _ _ 26 rfl w1.heap.size 41 i1 (.slice none 0 0) 1 24 Try.underlying26 hi1 hy0 hy1 hy2 rfl (by decide) _ _ _ rfl (hown5.alloc _) ⟨w4.heap.size, 0, none⟩ 1 1 [.slice (some ⟨g6, o6, none⟩) (nw pb n).length c4] rfl rfl (cell_one_new _ _ _) (fun x hx => by simp at hx; subst hx; rfl) (by unfold maxLen; omega) (by omega) (by simp; omega) ?_; intro v6 w6 hown6 hgrow6 _)
          have HG6 := Lib.hid (OwnG.push HG.out HD4.out hszw HU.out hown6 rfl hgrow6)
          have HB6 := Lib.hid ((HB4.out.alloc (by omega) (.cells #[.slice (some ⟨g6, o6, none⟩) (nw pb n).length c4] 41)).grown hgrow6 (by simp; omega) (fun j e => (hown5.lt j e).1))
          clear hown6 hgrow6 hown5
          go_roundg g2
          case measure => omega
          case rel => exact ⟨k + 1, _, _, rfl, by omega, by go_num, by rw [← HYY.out]; exact HG6.out, HB6.out⟩
  · unfold RetGr at HD
    rw [gdG_no hgd, okG_no hgd] at HD
    have HN := Lib.hid hgd
    clear hgd
    go_enter Try.func8, Try.ntmps8
    go_wp2_with fail
    refine HD.out.mono ?_
    rintro e w1 ⟨A1, c1, us, rfl, o1, b1⟩
    have e1 := btrans b0 b1
    clear HD b0 b1 g0
    go_wp2_with fail
    go_ret2
    exact RetGr.nil HN.out e1
set_option maxHeartbeats 2000000 in
set_option maxRecDepth 100000 in
theorem specPartO_any (s : Int) (v : Value) (l : List Ed) (w : World) (h : Edges w v l) (hl : l.length ≤ 1048576) (hs1 : -9223372036854775808 ≤ s) (hs2 : s ≤ 9223372036854775807) :
    Calls Try.prog 6 #[.agg #[.int .i64 s, v]] w (RetGr w (P2.Good s l) (partsA s.toNat l)) := by
  obtain ⟨A, c, rfl, -⟩ := h.form
  have H := Lib.hid h
  have b0 : Below w.heap.size w (w.alloc (.cells #[.int .i64 s, .slice A l.length c] 29)) := (Below.refl _ _).alloc (Nat.le_refl _) _
  have g0 := Blk.new w 29 #[.int .i64 s, .slice A l.length c]
  have HG := Lib.hid (l2Good_any s _ l _ (h.below b0) hl hs1 hs2)
  clear h
  by_cases hgd : P2.Good s l
  · rw [goodB_yes hgd] at HG
    have h0 := hgd.1
    have h8 := hgd.2.1
    obtain ⟨n, rfl⟩ : ∃ n : Nat, s = (n : Int) := ⟨s.toNat, by omega⟩
    have hn : n ≤ 8 := by omega
    rw [Int.toNat_natCast]
    have HGD := Lib.hid hgd
    clear hgd
    go_enter Try.func6, Try.ntmps6
    go_wp2_with fail
    refine HG.out.mono ?_
    rintro e w1 ⟨rfl, b1⟩
    have e1 := btrans b0 b1
    have g1 := g0.below b1 g0.lt
    obtain ⟨p0, p1, -, -⟩ := g1.two
    have HE := Lib.hid e1
    have HSK := Lib.hid (fun (W : World) (hW : Below w1.heap.size w1 W) => (⟨(hW.cell (p := ⟨w.heap.size, 0, none⟩) g1.lt).trans p0, (hW.cell (p := ⟨w.heap.size, 1, none⟩) g1.lt).trans p1⟩ : W.cell? ⟨w.heap.size, 0, none⟩ = some (.int .i64 (n : Int)) ∧ W.cell? ⟨w.heap.size, 1, none⟩ = some (.slice A l.length c)))
    have HDr := Lib.hid (fun (W : World) (hW : Below w1.drew.heap.size w1.drew W) => ((Below.refl _ _).drew.trans hW : Below w1.heap.size w1 W))
    clear HG b0 b1 g0 e1 g1
    go_wp2_with fail
    go_region_held3 (fun w' => w'.cell? ⟨w.heap.size, 0, none⟩ = some (.int .i64 (n : Int)) ∧ w'.cell? ⟨w.heap.size, 1, none⟩ = some (.slice A l.length c)) (first | go_keep | exact HSK.out _ d2 | exact HSK.out _ d1) (first
      | (go_at_call 19
         refine (l2All_any n _ _ hn).mono ?_
         rintro e w2 ⟨A1, c1, rfl, o1, b1⟩
         have d1 := HDr.out w2 b1
         have i1 := ints_all o1)
      | (go_at_call 18
         refine (l2Parts_any n (fun _ => true) _ _ l w2 (H.out.below (btrans HE.out d1)) hl i1 hn).mono ?_
         rintro e w3 ⟨A2, c2, us, rfl, o2, b2⟩
         have d2 := btrans d1 b2
         have o3 := o2.base (btrans HE.out d1).size))
    all_goals (go_wp2_with fail)
    all_goals go_ret2
    all_goals exact RetGr.yes (rows := partsA n l) HGD.out o3 (btrans HE.out d2)
  · rw [goodB_no hgd] at HG
    have HN := Lib.hid hgd
    clear hgd
    go_enter Try.func6, Try.ntmps6
    go_wp2_with fail
    refine HG.out.mono ?_
    rintro e w1 ⟨rfl, b1⟩
    have e1 := btrans b0 b1
    go_wp2_with fail
    go_ret2
    exact RetGr.no HN.out (own_base (own_new0 _ _ _) e1.size) (e1.alloc e1.size _)
def ConnP (s : Int) (l : List Ed) : Prop := P2.Good s l ∧ Whole s.toNat (J1 l)
set_option maxHeartbeats 1000000 in
theorem implConn_any (s : Int) (v : Value) (l : List Ed) (w : World) (h : Edges w v l) (hl : l.length ≤ 1048576) :
    Calls Try.prog 15 #[.agg #[.int .i64 s, v]] w fun e w' => e = .returned (.tuple #[.bool (okG (ConnP s l)), .bool (okG (P2.Good s l))]) ∧ Below w.heap.size w w' := by
  obtain ⟨A, c, rfl, -⟩ := h.form
  have b0 : Below w.heap.size w (w.alloc (.cells #[.int .i64 s, .slice A l.length c] 29)) := (Below.refl _ _).alloc (Nat.le_refl _) _
  have HD := Lib.hid (implPartO_any s _ l _ (h.below b0) hl)
  unfold RetGr at HD
  clear h
  by_cases hgd : P2.Good s l
  · rw [gdG_yes hgd, okG_yes hgd] at HD
    rw [okG_yes hgd]
    by_cases hw : (partsA s.toNat l).length ≤ 1
    · have d0 : decide (((partsA s.toNat l).length : Int) ≤ 1) = true := decide_eq_true (by omega)
      have d1 : ((partsA s.toNat l).length : Int) ≤ 1 := by omega
      rw [okG_yes (show ConnP s l from ⟨hgd, hw⟩)]
      clear hw
      go_enter Try.func15, Try.ntmps15
      go_wp2_with fail
      refine HD.out.mono ?_
      rintro e w1 ⟨A1, c1, us, rfl, o1, b1⟩
      have e1 := btrans b0 b1
      clear HD b0 b1 o1
      go_wp2_with fail
      go_ret2
      exact ⟨rfl, e1⟩
    · have d0 : decide (((partsA s.toNat l).length : Int) ≤ 1) = false := decide_eq_false (by omega)
      have d1 : ¬ ((partsA s.toNat l).length : Int) ≤ 1 := by omega
      rw [okG_no (show ¬ ConnP s l from fun hh => hw hh.2)]
      clear hw
      go_enter Try.func15, Try.ntmps15
      go_wp2_with fail
      refine HD.out.mono ?_
      rintro e w1 ⟨A1, c1, us, rfl, o1, b1⟩
      have e1 := btrans b0 b1
      clear HD b0 b1 o1
      go_wp2_with fail
      go_ret2
      exact ⟨rfl, e1⟩
  · rw [gdG_no hgd, okG_no hgd] at HD
    rw [okG_no hgd, okG_no (show ¬ ConnP s l from fun hh => hgd hh.1)]
    clear hgd
    go_enter Try.func15, Try.ntmps15
    go_wp2_with fail
    refine HD.out.mono ?_
    rintro e w1 ⟨A1, c1, us, rfl, o1, b1⟩
    have e1 := btrans b0 b1
    clear HD b0 b1 o1
    go_wp2_with fail
    go_ret2
    exact ⟨rfl, e1⟩
set_option maxHeartbeats 1000000 in
theorem specConn_any (s : Int) (v : Value) (l : List Ed) (w : World) (h : Edges w v l) (hl : l.length ≤ 1048576) (hs1 : -9223372036854775808 ≤ s) (hs2 : s ≤ 9223372036854775807) :
    Calls Try.prog 14 #[.agg #[.int .i64 s, v]] w fun e w' => e = .returned (.tuple #[.bool (okG (ConnP s l)), .bool (okG (P2.Good s l))]) ∧ Below w.heap.size w w' := by
  obtain ⟨A, c, rfl, -⟩ := h.form
  have H := Lib.hid h
  have b0 : Below w.heap.size w (w.alloc (.cells #[.int .i64 s, .slice A l.length c] 29)) := (Below.refl _ _).alloc (Nat.le_refl _) _
  have g0 := Blk.new w 29 #[.int .i64 s, .slice A l.length c]
  have HG := Lib.hid (l2Good_any s _ l _ (h.below b0) hl hs1 hs2)
  clear h
  by_cases hgd : P2.Good s l
  · rw [goodB_yes hgd] at HG
    rw [okG_yes hgd]
    have h0 := hgd.1
    have h8 := hgd.2.1
    obtain ⟨n, rfl⟩ : ∃ n : Nat, s = (n : Int) := ⟨s.toNat, by omega⟩
    have HWH := Lib.hid (fun (W : World) (hW : Below w.heap.size w W) => l2Whole_any n (.slice A l.length c) l W (H.out.below hW) hl (by omega))
    have HV : Hid (decide ((partsL n (reach.J2 l) (fun _ => true)).length ≤ 1) = okG (ConnP (n : Int) l)) := by
      show _ = _
      by_cases hw : (partsL n (reach.J2 l) (fun _ => true)).length ≤ 1
      · rw [decide_eq_true hw, okG_yes (show ConnP (n : Int) l from ⟨hgd, by rw [Int.toNat_natCast]; exact hw⟩)]
      · rw [decide_eq_false hw, okG_no (show ¬ ConnP (n : Int) l from fun hh => hw (by have h_ := hh.2; rw [Int.toNat_natCast] at h_; exact h_))]
    rw [HV.out] at HWH
    clear hgd
    generalize okG (ConnP (n : Int) l) = b at *
    go_enter Try.func14, Try.ntmps14
    go_wp2_with fail
    refine HG.out.mono ?_
    rintro e w1 ⟨rfl, b1⟩
    have e1 := btrans b0 b1
    have g1 := g0.below b1 g0.lt
    obtain ⟨p0, p1, -, -⟩ := g1.two
    have HW1 := Lib.hid (HWH.out w1 e1)
    clear HG b0 b1 g0 g1 HWH
    go_wp2_with fail
    refine HW1.out.mono ?_
    rintro e w2 ⟨rfl, b2⟩
    have e2 := btrans e1 b2
    go_wp2_with fail
    go_ret2
    exact ⟨rfl, e2⟩
  · rw [goodB_no hgd] at HG
    rw [okG_no hgd, okG_no (show ¬ ConnP s l from fun hh => hgd hh.1)]
    clear hgd
    go_enter Try.func14, Try.ntmps14
    go_wp2_with fail
    refine HG.out.mono ?_
    rintro e w1 ⟨rfl, b1⟩
    have e1 := btrans b0 b1
    go_wp2_with fail
    go_ret2
    exact ⟨rfl, e1⟩
end Go.Proofs.Ytkpkmfpdhanpiaa.parto
