/- The contract of the model's l2Parts. -/
import Derived.Handy
import Derived.Test.YthgahkkjdpljjaaDoorReach
import Derived.Test.YthgahkkjdpljjaaDoorPartM
import Derived.Test.YthgahkkjdpljjaaDoorGridW
import Derived.Deep.DeepCutAuto
import Derived.StillTailTactics
namespace Go.Proofs.YthgahkkjdpljjaaDoor.reach
open Go.RowKit P2 words edges ints owns good near adjs fns rets sets covs nearv balls grid
set_option linter.unusedVariables false

theorem OwnG.empty {w : World} {B : Nat} {v : Value} (h : w.ownsRow B 38 1 v 0 []) : OwnG w B v [] [] :=
  ⟨h, fun i u r hu => by simp at hu, fun i j u u' k _ hu => by simp at hu⟩
set_option maxHeartbeats 8000000 in
set_option maxRecDepth 100000 in
theorem l2Parts_any (n : Nat) (q : Nat → Bool) (v u : Value) (l : List Ed) (w : World) (h : Edges w v l) (hl : l.length ≤ 1048576) (hu : Ints w u (nw q n)) (hn8 : n ≤ 8) :
    Calls Tryd.prog 25 #[.agg #[.int .i64 (n : Int), v], u] w fun e w' => ∃ A c us, e = .returned (.slice A (partsL n (J2 l) q).length c) ∧ OwnG w' w.heap.size (.slice A (partsL n (J2 l) q).length c) us (partsL n (J2 l) q) ∧ Below w.heap.size w w' := by
  obtain ⟨i1, hi1, hy0, hy1, hy2⟩ := info_parts infoRow
  obtain ⟨A, c, rfl, -⟩ := h.form
  obtain ⟨A2, c2, rfl, hc2⟩ := hu.form
  have H := Lib.hid h
  have HU := Lib.hid hu
  have HC2 := Lib.hid hc2
  have hsl := nw_len q n
  have HB0 : Hid (Below w.heap.size w (((w.alloc (.cells #[.int .i64 (n : Int), .slice A l.length c] 30)).alloc (.cells #[] 38)).alloc (.cells #[] 3))) := (((Below.refl _ _).alloc (Nat.le_refl _) _).alloc (by simp) _).alloc (by simp; omega) _
  have HG0 := Lib.hid (((Blk.new w 30 #[.int .i64 (n : Int), .slice A l.length c]).alloc (.cells #[] 38)).alloc (.cells #[] 3))
  have HO0 : Hid (OwnG (((w.alloc (.cells #[.int .i64 (n : Int), .slice A l.length c] 30)).alloc (.cells #[] 38)).alloc (.cells #[] 3)) w.heap.size (.slice (some ⟨w.heap.size + 1, 0, none⟩) 0 0) [] (partsT n (J2 l) q 0)) := by
    have h_ := (own_new0 (w.alloc (.cells #[.int .i64 (n : Int), .slice A l.length c] 30)) 38 1).alloc (.cells #[] 3)
    rw [World.size_alloc] at h_
    exact OwnG.empty (own_base h_ (by omega))
  have HS0 : Hid ((((w.alloc (.cells #[.int .i64 (n : Int), .slice A l.length c] 30)).alloc (.cells #[] 38)).alloc (.cells #[] 3)).ownsRow w.heap.size 3 1 (.slice (some ⟨w.heap.size + 1 + 1, 0, none⟩) 0 0) (nw (fun _ => false) n).length (cellsI (nw (fun _ => false) n))) := by
    show World.ownsRow _ _ _ _ _ _ _
    have e : nw (fun _ => false) n = [] := by simp [nw]
    rw [e]
    have h_ := own_new0 ((w.alloc (.cells #[.int .i64 (n : Int), .slice A l.length c] 30)).alloc (.cells #[] 38)) 3 1
    rw [World.size_alloc, World.size_alloc] at h_
    exact own_base h_ (by omega)
  have HE0 : Hid ((nw (fun _ => false) n).length = 0) := by show _ = _; simp [nw]
  rw [HE0.out] at HS0
  have HSE : Hid (SeenIs n (J2 l) q 0 (fun _ => false)) := SeenIs.zero
  clear h hu hc2
  go_enter Tryd.func25, Tryd.ntmps25
  go_wp2_with fail
  go_loopg [5, 6, 7] (nw q n).length (fun g ov sv iv wr => ∃ (i : Nat) (p : Nat → Bool) (ow sw : Value) (us : List Value), ow = ov ∧ sw = sv ∧ i + g = (nw q n).length ∧ iv = .int .i64 (i : Int) ∧ Hid (SeenIs n (J2 l) q i p) ∧
    OwnG wr w.heap.size ow us (partsT n (J2 l) q i) ∧ wr.ownsRow w.heap.size 3 1 sw (nw p n).length (cellsI (nw p n)) ∧ Blk wr w.heap.size 30 #[.int .i64 (n : Int), .slice A l.length c] ∧ Below w.heap.size w wr)
  case atStart => exact ⟨0, fun _ => false, _, _, _, rfl, rfl, by omega, rfl, HSE, HO0.out, by rw [HE0.out]; exact HS0.out, HG0.out, HB0.out⟩
  case round =>
    clear HB0 HG0 HS0 HO0 HE0 HSE
    obtain ⟨i, p, ow, sw, us, rfl, rfl, hig, rfl, hse, hG, hrow, hgb, hB⟩ := hrel
    cases gk with
    | zero =>
      obtain rfl : i = (nw q n).length := by omega
      obtain ⟨A4, c4, rfl⟩ := own_form hG.1
      have HG := Lib.hid hG
      have HB := Lib.hid hB
      clear hG hrow hgb hB hse
      go_wp2_with fail
      go_ret
      exact ⟨A4, c4, us, rfl, HG.out, HB.out⟩
    | succ g2 =>
      have hilt : (i : Int) < ((nw q n).length : Int) := by omega
      obtain ⟨yv, hyv⟩ : ∃ yv, (nw q n)[i]? = some yv := ⟨_, List.getElem?_eq_getElem (by omega)⟩
      obtain ⟨y, rfl, hyn, hqy⟩ := nw_at hyv
      obtain ⟨g5, o5, rfl, c5⟩ := HC2.out i _ hyv
      obtain ⟨A6, c6, rfl⟩ := own_form hrow
      have hpl := nw_len p n
      have q5 := nearv.cell_keep c5 hB
      have HC5 := Lib.hid c5
      have HHAS := Lib.hid (l1Has_any (.slice A6 (nw p n).length c6) (nw p n) (y : Int) wr (Reads.of_own hrow) (by omega))
      have HLE := Lib.hid (hse.out.least hyv hyn)
      have HG := Lib.hid hG
      have HR := Lib.hid hrow
      have HK := Lib.hid hgb
      have HB := Lib.hid hB
      cases hpy : p y with
      | true =>
        have hm : decide ((y : Int) ∈ nw p n) = true := decide_eq_true (mem_nw.2 ⟨y, hyn, hpy, rfl⟩)
        rw [hm] at HHAS
        have HN : Hid (SeenIs n (J2 l) q (i + 1) p) := hse.out.skip hyv hyn hpy
        have HT := Lib.hid (partsT_no hyv (by rw [HLE.out, hpy]; rfl))
        clear hG hrow hgb hB hse hm hpy hyv hqy c5
        go_wp2_with fail
        refine HHAS.out.mono ?_
        rintro e w' ⟨rfl, rfl⟩
        go_wp2_with fail
        go_roundg g2
        case measure => omega
        case rel => exact ⟨i + 1, p, _, _, us, rfl, rfl, by omega, by go_num, HN, by rw [HT.out]; exact HG.out, HR.out, HK.out, HB.out⟩
      | false =>
        have hm0 : ¬ (y : Int) ∈ nw p n := by
          intro hh
          obtain ⟨j, _, hj, e⟩ := mem_nw.1 hh
          have h9 : y = j := by omega
          rw [← h9, hpy] at hj
          cases hj
        have hm : decide ((y : Int) ∈ nw p n) = false := decide_eq_false hm0
        rw [hm] at HHAS
        obtain ⟨p0, p1, -, -⟩ := hgb.two
        have HRE := Lib.hid (l2Reach_any n y q (.slice A l.length c) (.slice (some ⟨g5, o5, none⟩) (nw q n).length c2) l wr.drew (H.out.below hB.drew) hl (HU.out.below hB.drew) hn8 hyn hqy)
        have HTK := Lib.hid (fun (p' : Nat → Bool) (hp' : ∀ z, z < n → (p' z = true ↔ p z = true ∨ reachB n (J2 l) q y z = true)) => hse.out.take hyv hp')
        have HT := Lib.hid (partsT_yes hyv (by rw [HLE.out, hpy]; rfl))
        have hrl := nw_len (reachB n (J2 l) q y) n
        have htl := partsT_len (n := n) (J := J2 l) (q := q) i
        clear hG hrow hgb hB hse hm hm0 hpy hyv hqy c5 HLE
        go_wp2_with fail
        refine HHAS.out.mono ?_
        rintro e w' ⟨rfl, rfl⟩
        go_wp2_with fail
        go_still_tail 6, (by kernel_rfl)
        change wpList _ _ _ _ _ wr.drew
        go_wp2_with fail
        refine HRE.out.mono ?_
        rintro e w1 ⟨A7, c7, rfl, o7, b7⟩
        have d1 : Below wr.heap.size wr w1 := (Below.refl _ _).drew.trans b7
        have HO7 : Hid (w1.ownsRow wr.heap.size 3 1 (.slice A7 (nw (reachB n (J2 l) q y) n).length c7) (nw (reachB n (J2 l) q y) n).length (cellsI (nw (reachB n (J2 l) q y) n))) := o7
        have HD1 := Lib.hid d1
        have HR1 := Lib.hid (own_below HR.out d1)
        have HGT : Hid (Got n p (reachB n (J2 l) q y) 0 p) := Got.zero _ _
        have HT2 := Lib.hid (fun (p' : Nat → Bool) (hp' : Got n p (reachB n (J2 l) q y) (nw (reachB n (J2 l) q y) n).length p') => HTK.out p' hp'.all)
        clear b7 d1 o7 p0 p1 q5 HTK
        generalize hrr : reachB n (J2 l) q y = rr at *
        clear hrr
        go_wp2_with fail
        go_loopg [6, 9] (nw rr n).length (fun g sv kv wi => ∃ (k : Nat) (p' : Nat → Bool) (sw : Value), sw = sv ∧ k + g = (nw rr n).length ∧ kv = .int .i64 (k : Int) ∧ Hid (Got n p rr k p') ∧ wi.ownsRow w.heap.size 3 1 sw (nw p' n).length (cellsI (nw p' n)) ∧ Below w1.heap.size w1 wi)
        case atStart => exact ⟨0, p, _, rfl, by omega, rfl, HGT, HR1.out, Below.refl _ _⟩
        case round =>
          clear HR1 HGT
          obtain ⟨k, p', sw', rfl, hkg, rfl, hgot, hrow, hB1⟩ := hrel
          obtain ⟨A8, c8, rfl⟩ := own_form hrow
          have hpl2 := nw_len p' n
          cases gk with
          | zero =>
            obtain rfl : k = (nw rr n).length := by omega
            have HSN : Hid (SeenIs n (J2 l) q (i + 1) p') := HT2.out p' hgot.out
            have HBW := Lib.hid (HD1.out.trans (hB1.mono HD1.out.size))
            have hG5 := HG.out.below HBW.out
            have hr5 := own_below HO7.out hB1
            have hul : us.length ≤ 8 := by rw [HG.out.len]; omega
            have HR5 := Lib.hid hrow
            have HG5 := Lib.hid hG5
            have HU5 := Lib.hid hr5
            have hszw := HB.out.size
            have hszw2 := HBW.out.size
            have HK5 := Lib.hid (HK.out.below HBW.out HK.out.lt)
            have HB5 := Lib.hid (btrans HB.out HBW.out)
            have hown5 := hG5.1
            clear hrow hB1 hgot hG5 hr5 HT2
            generalize partsT n (J2 l) q i = rows at *
            obtain ⟨A9, c9, rfl⟩ := own_form hown5
            go_wp2_with (at_builtin; refine wpList_append_own _ rfl _ _ 25 rfl w.heap.size 38 i1 (.slice none 0 0) 1 24 Tryd.underlying25 hi1 hy0 hy1 hy2 rfl (by decide) _ _ _ rfl (hown5.alloc _) ⟨wr.heap.size, 0, none⟩ 1 1 [.slice A7 (nw rr n).length c7] rfl rfl (cell_one_new _ _ _) (fun x hx => by simp at hx; subst hx; rfl) (by unfold maxLen; omega) (by omega) (by simp; omega) ?_; intro v6 w6 hown6 hgrow6 _)
            have HG6 := Lib.hid (OwnG.push HG.out HBW.out hszw HU5.out hown6 rfl hgrow6)
            have HR6 := Lib.hid ((HR5.out.alloc (.cells #[.slice A7 (nw rr n).length c7] 38)).kept hgrow6 (by
              cases hh : (Value.slice A8 (nw p' n).length c8).ownBlock with
              | none => exact .inl rfl
              | some b => exact .inr (fun e => own_apart HR5.out hown5 tneI b hh e.symm)))
            have HK6 := Lib.hid ((HK5.out.alloc (.cells #[.slice A7 (nw rr n).length c7] 38)).grown hgrow6 (fun e => mids.own_ne hown5 HK5.out (by decide) e.symm))
            have HB6 := Lib.hid ((HB5.out.alloc (by omega) (.cells #[.slice A7 (nw rr n).length c7] 38)).grown hgrow6 (by simp; omega) (fun j e => (hown5.lt j e).1))
            clear hown6 hgrow6 hown5
            go_roundg g2
            case measure => omega
            case rel => exact ⟨i + 1, p', _, _, _, rfl, rfl, by omega, by go_num, HSN, by rw [HT.out]; exact HG6.out, HR6.out, HK6.out, HB6.out⟩
          | succ g4 =>
            have hklt : (k : Int) < ((nw rr n).length : Int) := by omega
            obtain ⟨zv, hzv⟩ : ∃ zv, (nw rr n)[k]? = some zv := ⟨_, List.getElem?_eq_getElem (by omega)⟩
            obtain ⟨z, rfl, hzn, hrz⟩ := nw_at hzv
            obtain ⟨_, _, hf, hcc⟩ := (show Ints wr (.slice A7 (nw rr n).length c7) (nw rr n) from Reads.of_own (own_below HO7.out hB1)).form
            cases hf
            obtain ⟨g6, o6, rfl, q6⟩ := hcc k _ hzv
            have HPUT := Lib.hid (l1Put_own (.slice A8 (nw p' n).length c8) (nw p' n) (z : Int) wr w.heap.size hrow (Nat.le_trans HB.out.size (Nat.le_trans HD1.out.size hB1.size)) (by omega) (nw_asc _ _))
            have HGS := Lib.hid (hgot.out.succ hzv)
            have HB1 := Lib.hid hB1
            clear hrow hB1 hgot hzv hrz hcc
            go_wp2_with fail
            refine HPUT.out.mono ?_
            rintro e w2 ⟨L, A10, c10, rfl, hp10, o10, b10⟩
            have HL := Lib.hid (pput_is hp10 hzn)
            have HB2 := Lib.hid (btrans HB1.out b10)
            have HO10 := Lib.hid o10
            clear b10 hp10 o10
            go_wp2_with fail
            go_roundg g4
            case measure => omega
            case rel => exact ⟨k + 1, pput p' z, _, rfl, by omega, by go_num, HGS, by rw [← HL.out]; exact HO10.out, HB2.out⟩
end Go.Proofs.YthgahkkjdpljjaaDoor.reach
