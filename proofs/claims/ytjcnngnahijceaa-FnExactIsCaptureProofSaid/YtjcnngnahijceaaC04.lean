/- Capture proofs: the contract of the model's l4Table. -/
import Derived.Handy
import Derived.Test.YtjcnngnahijceaaC03
import Derived.Deep.DeepCutAuto
import Derived.Deep.RegionHeld3
import Derived.Deep.QuietTactic
import Derived.Test.YtjcnngnahijceaaInts
import Derived.Test.YtjcnngnahijceaaC02
namespace Go.Proofs.Ytjcnngnahijceaa.cpfs
open Go.RowKit P2 words edges ints good adjs fns sets rets covs bitsI bags gridr mids grid reps apps times lists
set_option linter.unusedVariables false

/-- a row of a table: as many numbers as nodes, none below -1 -/
def RwOk (n : Nat) (r : List Int) : Prop := r.length = n ∧ ∀ y ∈ r, -1 ≤ y
def TbP (P n : Nat) (tb : List (List Int)) : Prop := tb.length = P ∧ ∀ r ∈ tb, RwOk n r
def tbF (tb : List (List Int)) (p r : Nat) : Int := (tb.getD p []).getD r 0
theorem TbP.grid {P n : Nat} {tb : List (List Int)} (h : TbP P n tb) : gridG P n (tbF tb) = tb := by
  apply List.ext_getElem?
  intro i
  by_cases hi : i < P
  · rw [gridG_at hi]
    obtain ⟨r, hr⟩ : ∃ r, tb[i]? = some r := ⟨_, List.getElem?_eq_getElem (by rw [h.1]; exact hi)⟩
    rw [hr]
    congr 1
    have hrl := (h.2 r (List.mem_of_getElem? hr)).1
    apply List.ext_getElem?
    intro j
    by_cases hj : j < n
    · rw [rowG_at hj]
      unfold tbF
      rw [show tb.getD i [] = r from by rw [List.getD_eq_getElem?_getD, hr]; rfl, List.getD_eq_getElem?_getD, List.getElem?_eq_getElem (by omega)]
      rfl
    · rw [List.getElem?_eq_none (by rw [rowG_len]; omega), List.getElem?_eq_none (by omega)]
  · rw [List.getElem?_eq_none (by rw [gridG_len]; omega), List.getElem?_eq_none (by rw [h.1]; omega)]
set_option maxHeartbeats 4000000 in
set_option maxRecDepth 100000 in
theorem l4Table_any (n k : Nat) (fv mv bv t : Value) (uf um ub us : List Value) (tb : List (List Int)) (l : List Ed) (w : World) (h : HS w l n k fv mv bv uf um ub) (ht : ReadsG w t us tb) (htl : tb.length ≤ 1048576) (htr : ∀ r ∈ tb, r.length ≤ 1048576) (hP : (gameN l n k).P ≤ 200) (hn : n ≤ 8) :
    Calls Try.prog 83 #[.agg #[fv, mv, bv], t] w fun e w' => e = .returned (.bool (okG (TbP (gameN l n k).P n tb))) ∧ Below w.heap.size w w' := by
  obtain ⟨Af, cf, rfl, -⟩ := h.cfgs.1
  obtain ⟨Am, cm, rfl, -⟩ := h.moves.1
  obtain ⟨Ab, cb, rfl, -⟩ := h.balls.1
  obtain ⟨At, ct, rfl, -⟩ := ht.1
  have hfl : (rowsN (listsN n k 0)).length = (gameN l n k).P := rowsN_len _
  have HT := Lib.hid ht
  have HRR := Lib.hid htr
  clear h ht htr
  rw [hfl, mvG_len, ballG_len]
  clear hfl
  generalize (gameN l n k).P = P at *
  have hby : Below w.heap.size w (w.alloc (.cells #[.slice Af P cf, .slice Am P cm, .slice Ab n cb] 90)) := (Below.refl _ _).alloc (Nat.le_refl _) _
  obtain ⟨p0, p1, p2⟩ := blk3 (Blk.new w 90 #[.slice Af P cf, .slice Am P cm, .slice Ab n cb])
  go_enter Try.func83, Try.ntmps83
  go_wp2_with fail
  have HBY := Lib.hid hby
  have HBK := Lib.hid (Blk.new w 90 #[.slice Af P cf, .slice Am P cm, .slice Ab n cb])
  have HK0 : Hid (∀ i r, i < 0 → tb[i]? = some r → RwOk n r) := fun i r hi => by omega
  obtain ⟨m, hm⟩ : ∃ m, m = min tb.length P := ⟨_, rfl⟩
  have hm1 : m ≤ tb.length := by omega
  have hm2 : m ≤ P := by omega
  have hm3 : m = tb.length ∨ m = P := by omega
  clear hm hby p0 p1 p2
  go_loopg [5] m (fun g iv wr => ∃ c : Nat, c + g = m ∧ iv = .int .i64 (c : Int) ∧ Hid (∀ i r, i < c → tb[i]? = some r → RwOk n r) ∧ Blk wr w.heap.size 90 #[.slice Af P cf, .slice Am P cm, .slice Ab n cb] ∧ Below w.heap.size w wr)
  case atStart => exact ⟨0, by omega, rfl, HK0, HBK.out, HBY.out⟩
  case round =>
    clear HK0 HBK HBY
    obtain ⟨c, hcg, rfl, hok, hbk, hby⟩ := hrel
    have HBK := Lib.hid hbk
    have HBY := Lib.hid hby
    obtain ⟨p0, p1, p2⟩ := blk3 hbk
    clear hbk hby
    cases gk with
    | zero =>
      obtain rfl : c = m := by omega
      by_cases he : tb.length = P
      · have HV : Hid (okG (TbP P n tb) = true) := okG_yes ⟨he, fun r hr => by
          obtain ⟨i, hi⟩ := List.getElem?_of_mem hr
          exact hok.out i r (by have := (List.getElem?_eq_some_iff.1 hi).1; omega) hi⟩
        have h1 : ¬ (c : Int) < (tb.length : Int) := by omega
        have h2 : (tb.length : Int) = (P : Int) := by omega
        have h3 : decide ((tb.length : Int) = (P : Int)) = true := decide_eq_true h2
        go_wp2_with fail
        go_ret
        exact ⟨ret_bool (by first | (rw [HV.out]; done) | (rw [HV.out]; simp; done) | (rw [HV.out]; simp; omega)), HBY.out⟩
      · have HV : Hid (okG (TbP P n tb) = false) := okG_no fun h => he h.1
        have h2 : ¬ (tb.length : Int) = (P : Int) := by omega
        have h3 : decide ((tb.length : Int) = (P : Int)) = false := decide_eq_false h2
        by_cases h1 : c < tb.length
        · have h1' : (c : Int) < (tb.length : Int) := by omega
          have h4 : ¬ (c : Int) < (P : Int) := by omega
          go_wp2_with fail
          go_ret
          exact ⟨ret_bool (by first | (rw [HV.out]; done) | (rw [HV.out]; simp; done) | (rw [HV.out]; simp; omega)), HBY.out⟩
        · have h1' : ¬ (c : Int) < (tb.length : Int) := by omega
          go_wp2_with fail
          go_ret
          exact ⟨ret_bool (by first | (rw [HV.out]; done) | (rw [HV.out]; simp; done) | (rw [HV.out]; simp; omega)), HBY.out⟩
    | succ g2 =>
      have hlt : c < tb.length := by omega
      have hlt' : (c : Int) < (tb.length : Int) := by omega
      have hlP : (c : Int) < (P : Int) := by omega
      obtain ⟨r, hr⟩ : ∃ r, tb[c]? = some r := ⟨_, List.getElem?_eq_getElem hlt⟩
      obtain ⟨u, g5, o5, hu, rfl, q5, hri⟩ := HT.out.row hr
      obtain ⟨A7, c7, rfl, hc7⟩ := hri.form
      have q6 := nearv.cell_keep q5 HBY.out
      have HC7 := Lib.hid hc7
      have HRL := HRR.out r (List.mem_of_getElem? hr)
      by_cases hrn : r.length = n
      · have hrn' : (r.length : Int) = (n : Int) := by omega
        have hne : ((r.length : Int) != (n : Int)) = false := by simp; omega
        have HRN := Lib.hid hrn
        have HR := Lib.hid hr
        have HQ5 := Lib.hid q5
        have HI0 : Hid (∀ j y, j < 0 → r[j]? = some y → -1 ≤ y) := fun j y hj => by omega
        have hl8 : r.length ≤ 8 := by omega
        clear hr hu q5 hri hc7 hrn
        have HBD := Lib.hid (fun (m : Nat) => below_drewN HBY.out m)
        have HKD := Lib.hid (fun (m : Nat) => HBK.out.drewN m)
        go_wp2_with fail
        go_quiet (fail)
        go_wp2_with fail
        clear p0 p1 p2 q6
        go_loopg [6] r.length (fun g iv wr => ∃ x : Nat, x + g = r.length ∧ iv = .int .i64 (x : Int) ∧ Hid (∀ j y, j < x → r[j]? = some y → -1 ≤ y) ∧ Blk wr w.heap.size 90 #[.slice Af P cf, .slice Am P cm, .slice Ab n cb] ∧ Below w.heap.size w wr)
        case atStart => exact ⟨0, by omega, rfl, HI0, HKD.out _, HBD.out _⟩
        case round =>
          clear HI0 HKD HBD HBK HBY
          obtain ⟨x, hxg, rfl, hno, hbk, hby⟩ := hrel
          have HBK := Lib.hid hbk
          have HBY := Lib.hid hby
          obtain ⟨p0, p1, p2⟩ := blk3 hbk
          have q6 := nearv.cell_keep HQ5.out hby
          clear hbk hby
          cases gk with
          | zero =>
            obtain rfl : x = r.length := by omega
            have HN : Hid (∀ i q, i < c + 1 → tb[i]? = some q → RwOk n q) := fun i q hi hq => by
              by_cases e : i = c
              · subst e; rw [HR.out] at hq; cases hq
                exact ⟨HRN.out, fun y hy => by
                  obtain ⟨j, hj⟩ := List.getElem?_of_mem hy
                  exact hno.out j y (List.getElem?_eq_some_iff.1 hj).1 hj⟩
              · exact hok.out i q (by omega) hq
            go_wp2_with fail
            go_roundg g2
            case measure => omega
            case rel => exact ⟨c + 1, by omega, by go_num, HN, HBK.out, HBY.out⟩
          | succ g3 =>
            have hxl : x < r.length := by omega
            have hxl' : (x : Int) < (r.length : Int) := by omega
            obtain ⟨y, hy⟩ : ∃ y, r[x]? = some y := ⟨_, List.getElem?_eq_getElem hxl⟩
            obtain ⟨g8, o8, rfl, c8⟩ := HC7.out x _ hy
            have q8 := nearv.cell_keep c8 HBY.out
            by_cases hy1 : y < -1
            · have HV : Hid (okG (TbP P n tb) = false) := okG_no fun h => by
                have := (h.2 r (List.mem_of_getElem? HR.out)).2 y (List.mem_of_getElem? hy)
                omega
              clear hy c8
              go_wp2_with fail
              go_ret
              rw [HV.out]
              exact ⟨rfl, HBY.out⟩
            · have HN : Hid (∀ j z, j < x + 1 → r[j]? = some z → -1 ≤ z) := fun j z hj hz => by
                by_cases e : j = x
                · subst e; rw [hy] at hz; cases hz; omega
                · exact hno.out j z (by omega) hz
              clear hy c8
              go_wp2_with fail
              go_roundg g3
              case measure => omega
              case rel => exact ⟨x + 1, by omega, by go_num, HN, HBK.out, HBY.out⟩
      · have hrn' : ¬ (r.length : Int) = (n : Int) := by omega
        have hne : ((r.length : Int) != (n : Int)) = true := by simp; omega
        have HV : Hid (okG (TbP P n tb) = false) := okG_no fun h => hrn (h.2 r (List.mem_of_getElem? hr)).1
        have HBD := Lib.hid (fun (m : Nat) => below_drewN HBY.out m)
        clear hr hu q5 hri hc7
        go_wp2_with fail
        go_quiet (fail)
        go_wp2_with fail
        go_ret
        rw [HV.out]
        exact ⟨rfl, HBD.out _⟩
end Go.Proofs.Ytjcnngnahijceaa.cpfs

/- Capture proofs: the contract of the model's l4Proves. -/
namespace Go.Proofs.Ytjcnngnahijceaa.cpfs
open Go.RowKit P2 words edges ints good adjs fns sets rets covs bitsI bags gridr mids grid reps apps times lists balls
set_option linter.unusedVariables false

/-- what a capture proof asks of one of its numbers -/
def PrvP (G : Game) (T : Nat → Nat → Int) (l : List Ed) (p r : Nat) : Prop :=
  (T p r < 0 ∨ (T p r = 0 ∧ G.tk p r = true)) ∨ (0 < T p r ∧ ∃ q, q < G.P ∧ G.mv p q = true ∧ 0 ≤ afterG G T l q r ∧ afterG G T l q r ≤ T p r - 1)
set_option maxHeartbeats 4000000 in
set_option maxRecDepth 100000 in
theorem l4Proves_any (n k p r : Nat) (T : Nat → Nat → Int) (fv mv bv t : Value) (uf um ub us : List Value) (l : List Ed) (w : World) (h : HS w l n k fv mv bv uf um ub) (ht : ReadsG w t us (gridG (gameN l n k).P n T)) (hn : n ≤ 8) (hk : k ≤ 3) (hp : p < (gameN l n k).P) (hr : r < n) (hP : (gameN l n k).P ≤ 200) (hT : T p r ≤ 9223372036854775807) :
    Calls Try.prog 84 #[.agg #[fv, mv, bv], t, .int .i64 (p : Int), .int .i64 (r : Int)] w fun e w' => e = .returned (.bool (okG (PrvP (gameN l n k) T l p r))) ∧ Below w.heap.size w w' := by
  obtain ⟨Af, cf, rfl, -⟩ := h.cfgs.1
  obtain ⟨Am, cm, rfl, -⟩ := h.moves.1
  obtain ⟨Ab, cb, rfl, -⟩ := h.balls.1
  obtain ⟨At, ct, rfl, -⟩ := ht.1
  have HH := Lib.hid h
  have HTT := Lib.hid ht
  have hfl : (rowsN (listsN n k 0)).length = (gameN l n k).P := rowsN_len _
  obtain ⟨u1, g1, o1, hu1, rfl, c1, hri⟩ := ht.row (gridG_at (T := T) (n := n) hp)
  obtain ⟨A2, c2, rfl, hc2⟩ := hri.form
  obtain ⟨g2, o2, rfl, d2⟩ := hc2 r _ (rowG_at hr)
  obtain ⟨u3, g3, o3, hu3, rfl, c3, hmi⟩ := h.moves.row (mvG_at hp)
  obtain ⟨A4, c4, rfl, hc4⟩ := hmi.form
  obtain ⟨u5, g5, o5, hu5, rfl, c5, hfi⟩ := h.cfgs.row (show (rowsN (listsN n k 0))[p]? = some (castL (cfg n k p)) from rowsN_at (cfg_at hp))
  obtain ⟨A6, c6, rfl, -⟩ := hfi.form
  rw [hfl, mvG_len, ballG_len, gridG_len] at *
  rw [rowG_len] at c1
  have hml := mvN_len l n k p
  have hby : Below w.heap.size w (w.alloc (.cells #[.slice (some ⟨g5, o5, none⟩) (gameN l n k).P cf, .slice (some ⟨g3, o3, none⟩) (gameN l n k).P cm, .slice Ab n cb] 90)) := (Below.refl _ _).alloc (Nat.le_refl _) _
  have HBK := Lib.hid (Blk.new w 90 #[.slice (some ⟨g5, o5, none⟩) (gameN l n k).P cf, .slice (some ⟨g3, o3, none⟩) (gameN l n k).P cm, .slice Ab n cb])
  have HBY := Lib.hid hby
  have HP2 : Hid (∀ q : Nat, (q : Int) ∈ mvN l n k p ↔ q < (gameN l n k).P ∧ (gameN l n k).mv p q = true) := fun q => by
    unfold mvN
    rw [mem_nw]
    constructor
    · rintro ⟨j, h1, h2, e⟩
      have : j = q := by omega
      subst this; exact ⟨h1, h2⟩
    · rintro ⟨h1, h2⟩; exact ⟨q, h1, h2, rfl⟩
  have HPM : Hid (∀ y ∈ mvN l n k p, ∃ q : Nat, y = (q : Int)) := fun y hy => by
    unfold mvN at hy
    obtain ⟨j, _, _, e⟩ := mem_nw.1 hy
    exact ⟨j, e⟩
  have HAF := Lib.hid (fun (W : World) (hW : Below w.heap.size w W) (q : Nat) (hq : q < (gameN l n k).P) => l4After_any n k q r T _ _ _ _ uf um ub us l W (HH.out.below hW) (HTT.out.below hW) hn hk hq hr)
  obtain ⟨tv, htv⟩ : ∃ tv, tv = T p r := ⟨_, rfl⟩
  have HPV : Hid (PrvP (gameN l n k) T l p r ↔ (tv < 0 ∨ (tv = 0 ∧ decide (r ∈ cfg n k p) = true)) ∨ (0 < tv ∧ ∃ q : Nat, (q : Int) ∈ mvN l n k p ∧ 0 ≤ afterG (gameN l n k) T l q r ∧ afterG (gameN l n k) T l q r ≤ tv - 1)) := by
    show _ ↔ _
    subst htv
    unfold PrvP
    constructor
    · rintro (h | ⟨h, q, h1, h2, h3⟩)
      · exact .inl h
      · exact .inr ⟨h, q, (HP2.out q).2 ⟨h1, h2⟩, h3⟩
    · rintro (h | ⟨h, q, h1, h3⟩)
      · exact .inl h
      · exact .inr ⟨h, q, ((HP2.out q).1 h1).1, ((HP2.out q).1 h1).2, h3⟩
  rw [← htv] at d2 hT
  have HHS := Lib.hid (l1Has_any (.slice A6 (castL (cfg n k p)).length c6) (castL (cfg n k p)) (r : Int) (w.alloc (.cells #[.slice (some ⟨g5, o5, none⟩) (gameN l n k).P cf, .slice (some ⟨g3, o3, none⟩) (gameN l n k).P cm, .slice Ab n cb] 90)) (hfi.below hby) (by rw [castL_len, cfg_len hp]; omega))
  rw [mem_cfg] at HHS
  have HC4 := Lib.hid hc4
  have HC3 := Lib.hid c3
  have s1 := nearv.cell_keep c1 hby
  have s2 := nearv.cell_keep d2 hby
  have s3 := nearv.cell_keep c3 hby
  have s5 := nearv.cell_keep c5 hby
  have HPQ := Lib.hid (fun (q : Nat) (h : (q : Int) ∈ mvN l n k p) => ((HP2.out q).1 h).1)
  have hpP : (p : Int) < ((gameN l n k).P : Int) := by omega
  have hrn : (r : Int) < (n : Int) := by omega
  rw [rowG_len] at *
  obtain ⟨p0, p1, p2⟩ := blk3 HBK.out
  clear h ht hc2 hu1 hri hc4 hu3 hmi hu5 hfi c1 c3 c5 d2 hfl htv hby
  generalize PrvP (gameN l n k) T l p r = PV at *
  generalize decide (r ∈ cfg n k p) = tk at *
  generalize hM : mvN l n k p = M at *
  have HMM := Lib.hid hM
  generalize hGP : (gameN l n k).P = P at *
  have HGP := Lib.hid hGP
  clear hM hGP
  go_enter Try.func84, Try.ntmps84
  by_cases h0 : tv ≤ 0
  · have d0 : decide (tv ≤ 0) = true := decide_eq_true h0
    by_cases h1 : tv < 0
    · have d1 : decide (tv < 0) = true := decide_eq_true h1
      have HV : Hid (okG PV = true) := okG_yes (HPV.out.2 (.inl (.inl h1)))
      go_wp2_with fail
      go_ret
      rw [HV.out]
      exact ⟨rfl, HBY.out⟩
    · have d1 : decide (tv < 0) = false := decide_eq_false h1
      have h00 : tv = 0 := by omega
      have HV : Hid (okG PV = tk) := by
        show _ = _
        cases tk with
        | true => exact okG_yes (HPV.out.2 (.inl (.inr ⟨h00, rfl⟩)))
        | false => exact okG_no fun h => by rcases HPV.out.1 h with (h | ⟨_, h⟩) | ⟨h, _⟩ <;> first | omega | cases h
      go_wp2_with fail
      refine HHS.out.mono ?_
      rintro e w' ⟨rfl, rfl⟩
      go_wp2_with fail
      go_ret
      rw [HV.out]
      exact ⟨rfl, HBY.out⟩
  · have d0 : decide (tv ≤ 0) = false := decide_eq_false h0
    have hpos : 0 < tv := by omega
    have HI0 : Hid (∀ j (q : Nat), j < 0 → M[j]? = some (q : Int) → ¬ (0 ≤ afterG (gameN l n k) T l q r ∧ afterG (gameN l n k) T l q r ≤ tv - 1)) := fun j q hj => by omega
    have hw1 : IntKind.i64.wrap (tv - 1) = tv - 1 := Go.IntWalk.i64_in _ (by omega)
    have hml2 : M.length ≤ 200 := by omega
    go_wp2_with fail
    clear p0 p1 p2 s1 s2 s3 s5
    go_loopg [10] M.length (fun g iv wr => ∃ i : Nat, i + g = M.length ∧ iv = .int .i64 (i : Int) ∧ Hid (∀ j (q : Nat), j < i → M[j]? = some (q : Int) → ¬ (0 ≤ afterG (gameN l n k) T l q r ∧ afterG (gameN l n k) T l q r ≤ tv - 1)) ∧ Blk wr w.heap.size 90 #[.slice (some ⟨g5, o5, none⟩) P cf, .slice (some ⟨g3, o3, none⟩) P cm, .slice Ab n cb] ∧ Below w.heap.size w wr)
    case atStart => exact ⟨0, by omega, rfl, HI0, HBK.out, HBY.out⟩
    case round =>
      clear HI0 HBK HBY
      obtain ⟨i, hig, rfl, hno, hbk, hby⟩ := hrel
      have HBK := Lib.hid hbk
      have HBY := Lib.hid hby
      obtain ⟨p0, p1, p2⟩ := blk3 hbk
      have s3 := nearv.cell_keep HC3.out hby
      cases gk with
      | zero =>
        obtain rfl : i = M.length := by omega
        have HV : Hid (okG PV = false) := okG_no fun h => by
          rcases HPV.out.1 h with (h | ⟨h, _⟩) | ⟨_, q, hq, hh⟩
          · omega
          · omega
          · obtain ⟨j, hj⟩ := List.getElem?_of_mem hq
            exact hno.out j q (List.getElem?_eq_some_iff.1 hj).1 hj hh
        clear hbk hby
        go_wp2_with fail
        go_ret
        rw [HV.out]
        exact ⟨rfl, HBY.out⟩
      | succ g2' =>
        have hlt : i < M.length := by omega
        have hlt' : (i : Int) < (M.length : Int) := by omega
        obtain ⟨y, hy⟩ : ∃ y, M[i]? = some y := ⟨_, List.getElem?_eq_getElem hlt⟩
        obtain ⟨q, rfl⟩ := HPM.out y (List.mem_of_getElem? hy)
        have hqm := List.mem_of_getElem? hy
        have hqP := HPQ.out q hqm
        obtain ⟨g7, o7, rfl, e7⟩ := HC4.out i _ hy
        have q7 := nearv.cell_keep e7 hby
        have HE7 := Lib.hid e7
        have HAQ := Lib.hid (fun (W : World) (hW : Below wr.heap.size wr W) => HAF.out W (btrans hby hW) q hqP)
        have HSK : Hid (∀ W : World, Below wr.heap.size wr W → W.cell? ⟨w.heap.size, 0, none⟩ = some (.slice (some ⟨g5, o5, none⟩) P cf) ∧ W.cell? ⟨w.heap.size, 1, none⟩ = some (.slice (some ⟨g3, o3, none⟩) P cm) ∧ W.cell? ⟨w.heap.size, 2, none⟩ = some (.slice Ab n cb) ∧ W.cell? ⟨g3, o3 + p, none⟩ = some (.slice (some ⟨g7, o7, none⟩) M.length c4) ∧ W.cell? ⟨g7, o7 + i, none⟩ = some (.int .i64 (q : Int))) := fun W hW => by
          obtain ⟨a0, a1, a2⟩ := blk3 (HBK.out.below hW HBK.out.lt)
          exact ⟨a0, a1, a2, nearv.cell_keep HC3.out (btrans HBY.out hW), nearv.cell_keep HE7.out (btrans HBY.out hW)⟩
        have HMI := Lib.hid hy
        clear hbk hby hy e7
        by_cases hin : 0 ≤ afterG (gameN l n k) T l q r ∧ afterG (gameN l n k) T l q r ≤ tv - 1
        · have HV : Hid (okG PV = true) := okG_yes (HPV.out.2 (.inr ⟨hpos, q, hqm, hin⟩))
          have HIB : Hid (inB (afterG (gameN l n k) T l q r) 0 (tv - 1) = true) := by show _ = _; unfold inB; exact decide_eq_true hin
          clear hin hqm
          generalize afterG (gameN l n k) T l q r = av at *
          go_wp2_with fail
          refine wp_region_held_drew (S := (fun W : World => W.cell? ⟨w.heap.size, 0, none⟩ = some (.slice (some ⟨g5, o5, none⟩) P cf) ∧ W.cell? ⟨w.heap.size, 1, none⟩ = some (.slice (some ⟨g3, o3, none⟩) P cm) ∧ W.cell? ⟨w.heap.size, 2, none⟩ = some (.slice Ab n cb) ∧ W.cell? ⟨g3, o3 + p, none⟩ = some (.slice (some ⟨g7, o7, none⟩) M.length c4) ∧ W.cell? ⟨g7, o7 + i, none⟩ = some (.int .i64 (q : Int)))) (by kernel_rfl) (by (try dsimp only); simp [*]) (fun hHeld => ?_)
          change wpAnyH _ _ _ _ _ _ #[false, false, false, false, false, false, false, false, false, false, false, false, false, false, false] _ _
          refine wpAnyH_take (i := 0) (oi := ⟨some 41, _, _, _, _, _⟩) (v := ?_) rfl (by kernel_rfl) (by kernel_rfl) (by kernel_rfl) (fun _ _ _ h => h) (Or.inl ⟨by rfl, ?_⟩) (by assumption) ?_
          rotate_left
          · (intro w hSw; (try dsimp only at hSw); go_simp; (try (with_reducible rfl)))
          try simp only [Act.put, List.setIfInBounds_toArray, List.set_cons_zero, List.set_cons_succ]
          refine wpAnyH_take (i := 1) (oi := ⟨some 42, _, _, _, _, _⟩) (v := ?_) rfl (by kernel_rfl) (by kernel_rfl) (by kernel_rfl) (fun _ _ _ h => h) (Or.inl ⟨by rfl, ?_⟩) (by assumption) ?_
          rotate_left
          · (intro w hSw; (try dsimp only at hSw); go_simp; (try (with_reducible rfl)))
          try simp only [Act.put, List.setIfInBounds_toArray, List.set_cons_zero, List.set_cons_succ]
          refine wpAnyH_take (i := 2) (oi := ⟨some 43, _, _, _, _, _⟩) (v := ?_) rfl (by kernel_rfl) (by kernel_rfl) (by kernel_rfl) (fun _ _ _ h => h) (Or.inl ⟨by rfl, ?_⟩) (by assumption) ?_
          rotate_left
          · (intro w hSw; (try dsimp only at hSw); go_simp; (try (with_reducible rfl)))
          try simp only [Act.put, List.setIfInBounds_toArray, List.set_cons_zero, List.set_cons_succ]
          refine wpAnyH_take (i := 3) (oi := ⟨some 44, _, _, _, _, _⟩) (v := ?_) rfl (by kernel_rfl) (by kernel_rfl) (by kernel_rfl) (fun _ _ _ h => h) (Or.inl ⟨by rfl, ?_⟩) (by assumption) ?_
          rotate_left
          · (intro w hSw; (try dsimp only at hSw); go_simp; (try (with_reducible rfl)))
          try simp only [Act.put, List.setIfInBounds_toArray, List.set_cons_zero, List.set_cons_succ]
          refine wpAnyH_take (i := 4) (oi := ⟨some 45, _, _, _, _, _⟩) (v := ?_) rfl (by kernel_rfl) (by kernel_rfl) (by kernel_rfl) (fun _ _ _ h => h) (Or.inl ⟨by rfl, ?_⟩) (by assumption) ?_
          rotate_left
          · (intro w hSw; (try dsimp only at hSw); go_simp; (try (with_reducible rfl)))
          try simp only [Act.put, List.setIfInBounds_toArray, List.set_cons_zero, List.set_cons_succ]
          refine wpAnyH_take (i := 5) (oi := ⟨some 46, _, _, _, _, _⟩) (v := ?_) rfl (by kernel_rfl) (by kernel_rfl) (by kernel_rfl) (fun _ _ _ h => h) (Or.inl ⟨by rfl, ?_⟩) (by assumption) ?_
          rotate_left
          · (intro w hSw; (try dsimp only at hSw); go_simp; (try (with_reducible rfl)))
          try simp only [Act.put, List.setIfInBounds_toArray, List.set_cons_zero, List.set_cons_succ]
          refine wpAnyH_take (i := 6) (oi := ⟨some 47, _, _, _, _, _⟩) (v := ?_) rfl (by kernel_rfl) (by kernel_rfl) (by kernel_rfl) (fun _ _ _ h => h) (Or.inl ⟨by rfl, ?_⟩) (by assumption) ?_
          rotate_left
          · (intro w hSw; (try dsimp only at hSw); go_simp; (try (with_reducible rfl)))
          try simp only [Act.put, List.setIfInBounds_toArray, List.set_cons_zero, List.set_cons_succ]
          refine wpAnyH_take (i := 7) (oi := ⟨some 48, _, _, _, _, _⟩) (v := ?_) rfl (by kernel_rfl) (by kernel_rfl) (by kernel_rfl) (fun _ _ _ h => h) (Or.inl ⟨by rfl, ?_⟩) (by assumption) ?_
          rotate_left
          · (intro w hSw; (try dsimp only at hSw); go_simp; (try (with_reducible rfl)))
          try simp only [Act.put, List.setIfInBounds_toArray, List.set_cons_zero, List.set_cons_succ]
          refine wpAnyH_take (i := 8) (oi := ⟨some 49, _, _, _, _, _⟩) (v := ?_) rfl (by kernel_rfl) (by kernel_rfl) (by kernel_rfl) (fun _ _ _ h => h) (Or.inl ⟨by rfl, ?_⟩) (by assumption) ?_
          rotate_left
          · (intro w hSw; (try dsimp only at hSw); go_simp; (try (with_reducible rfl)))
          try simp only [Act.put, List.setIfInBounds_toArray, List.set_cons_zero, List.set_cons_succ]
          refine wpAnyH_take (i := 9) (oi := ⟨some 50, _, _, _, _, _⟩) (v := ?_) rfl (by kernel_rfl) (by kernel_rfl) (by kernel_rfl) (fun _ _ _ h => h) (Or.inl ⟨by rfl, ?_⟩) (by assumption) ?_
          rotate_left
          · (intro w hSw; (try dsimp only at hSw); go_simp; (try (with_reducible rfl)))
          try simp only [Act.put, List.setIfInBounds_toArray, List.set_cons_zero, List.set_cons_succ]
          refine wpAnyH_take (i := 10) (oi := ⟨some 51, _, _, _, _, _⟩) (v := ?_) rfl (by kernel_rfl) (by kernel_rfl) (by kernel_rfl) (fun _ _ _ h => h) (Or.inl ⟨by rfl, ?_⟩) (by assumption) ?_
          rotate_left
          · (intro w hSw; (try dsimp only at hSw); go_simp; (try (with_reducible rfl)))
          try simp only [Act.put, List.setIfInBounds_toArray, List.set_cons_zero, List.set_cons_succ]
          refine wpAnyH_take (i := 12) (oi := ⟨some 53, _, _, _, _, _⟩) (v := ?_) rfl (by kernel_rfl) (by kernel_rfl) (by kernel_rfl) (fun _ _ _ h => h) (Or.inl ⟨by rfl, ?_⟩) (by assumption) ?_
          rotate_left
          · (intro w hSw; (try dsimp only at hSw); go_simp; (try (with_reducible rfl)))
          try simp only [Act.put, List.setIfInBounds_toArray, List.set_cons_zero, List.set_cons_succ]
          refine wpAnyH_take (i := 13) (oi := ⟨some 54, _, _, _, _, _⟩) (v := ?_) rfl (by kernel_rfl) (by kernel_rfl) (by kernel_rfl) (fun _ _ _ h => h) (Or.inl ⟨by rfl, ?_⟩) (by assumption) ?_
          rotate_left
          · (intro w hSw; (try dsimp only at hSw); go_simp; (try (with_reducible rfl)))
          try simp only [Act.put, List.setIfInBounds_toArray, List.set_cons_zero, List.set_cons_succ]
          refine wpAnyH_ready (rs := [11]) (by kernel_rfl) (by simp) ?_
          refine AllReadyH.cons (o := ⟨some 52, _, _, _, _, _⟩) rfl (fun K hK => ?_) AllReadyH.nil
          go_simp
          (with_reducible refine (HAQ.out wr.drew (Below.refl _ _).drew).mono ?_); rintro e w4 ⟨rfl, b4⟩; have d4 : Below wr.heap.size wr w4 := btrans (Below.refl _ _).drew b4; obtain ⟨k0, k1, k2, k3, k4⟩ := HSK.out w4 d4
          go_wp2_with fail
          refine hK.out _ _ (by (try dsimp only); simp [*]) (fun hHeld => ?_)
          clear hK K
          try simp only [List.setIfInBounds_toArray, List.set_cons_zero, List.set_cons_succ]
          refine wpAnyH_ready (rs := [14]) (by kernel_rfl) (by simp) ?_
          refine AllReadyH.cons (o := ⟨some 55, _, _, _, _, _⟩) rfl (fun K hK => ?_) AllReadyH.nil
          go_simp
          (with_reducible refine (l1In_any av 0 (tv - 1) w4).mono ?_); rintro e w' ⟨rfl, rfl⟩
          go_wp2_with fail
          refine hK.out _ _ (by (try dsimp only); simp [*]) (fun hHeld => ?_)
          clear hK K
          try simp only [List.setIfInBounds_toArray, List.set_cons_zero, List.set_cons_succ]
          refine wpAnyH_done (by kernel_rfl) ?_ _
          have HB4 := Lib.hid (btrans HBY.out d4)
          clear hHeld p0 p1 p2 s3 q7 k0 k1 k2 k3 k4 b4 d4
          rw [HIB.out]
          go_wp2_with fail
          go_ret
          rw [HV.out]
          exact ⟨rfl, HB4.out⟩
        · have HIB : Hid (inB (afterG (gameN l n k) T l q r) 0 (tv - 1) = false) := by show _ = _; unfold inB; exact decide_eq_false hin
          have HN : Hid (∀ j (z : Nat), j < i + 1 → M[j]? = some (z : Int) → ¬ (0 ≤ afterG (gameN l n k) T l z r ∧ afterG (gameN l n k) T l z r ≤ tv - 1)) := fun j z hj hz => by
            by_cases e : j = i
            · subst e; rw [HMI.out] at hz
              have : q = z := by simp at hz; omega
              subst this; exact hin
            · exact hno.out j z (by omega) hz
          clear hin hqm
          generalize hav : afterG (gameN l n k) T l q r = av at *
          clear hav
          go_wp2_with fail
          refine wp_region_held_drew (S := (fun W : World => W.cell? ⟨w.heap.size, 0, none⟩ = some (.slice (some ⟨g5, o5, none⟩) P cf) ∧ W.cell? ⟨w.heap.size, 1, none⟩ = some (.slice (some ⟨g3, o3, none⟩) P cm) ∧ W.cell? ⟨w.heap.size, 2, none⟩ = some (.slice Ab n cb) ∧ W.cell? ⟨g3, o3 + p, none⟩ = some (.slice (some ⟨g7, o7, none⟩) M.length c4) ∧ W.cell? ⟨g7, o7 + i, none⟩ = some (.int .i64 (q : Int)))) (by kernel_rfl) (by (try dsimp only); simp [*]) (fun hHeld => ?_)
          change wpAnyH _ _ _ _ _ _ #[false, false, false, false, false, false, false, false, false, false, false, false, false, false, false] _ _
          refine wpAnyH_take (i := 0) (oi := ⟨some 41, _, _, _, _, _⟩) (v := ?_) rfl (by kernel_rfl) (by kernel_rfl) (by kernel_rfl) (fun _ _ _ h => h) (Or.inl ⟨by rfl, ?_⟩) (by assumption) ?_
          rotate_left
          · (intro w hSw; (try dsimp only at hSw); go_simp; (try (with_reducible rfl)))
          try simp only [Act.put, List.setIfInBounds_toArray, List.set_cons_zero, List.set_cons_succ]
          refine wpAnyH_take (i := 1) (oi := ⟨some 42, _, _, _, _, _⟩) (v := ?_) rfl (by kernel_rfl) (by kernel_rfl) (by kernel_rfl) (fun _ _ _ h => h) (Or.inl ⟨by rfl, ?_⟩) (by assumption) ?_
          rotate_left
          · (intro w hSw; (try dsimp only at hSw); go_simp; (try (with_reducible rfl)))
          try simp only [Act.put, List.setIfInBounds_toArray, List.set_cons_zero, List.set_cons_succ]
          refine wpAnyH_take (i := 2) (oi := ⟨some 43, _, _, _, _, _⟩) (v := ?_) rfl (by kernel_rfl) (by kernel_rfl) (by kernel_rfl) (fun _ _ _ h => h) (Or.inl ⟨by rfl, ?_⟩) (by assumption) ?_
          rotate_left
          · (intro w hSw; (try dsimp only at hSw); go_simp; (try (with_reducible rfl)))
          try simp only [Act.put, List.setIfInBounds_toArray, List.set_cons_zero, List.set_cons_succ]
          refine wpAnyH_take (i := 3) (oi := ⟨some 44, _, _, _, _, _⟩) (v := ?_) rfl (by kernel_rfl) (by kernel_rfl) (by kernel_rfl) (fun _ _ _ h => h) (Or.inl ⟨by rfl, ?_⟩) (by assumption) ?_
          rotate_left
          · (intro w hSw; (try dsimp only at hSw); go_simp; (try (with_reducible rfl)))
          try simp only [Act.put, List.setIfInBounds_toArray, List.set_cons_zero, List.set_cons_succ]
          refine wpAnyH_take (i := 4) (oi := ⟨some 45, _, _, _, _, _⟩) (v := ?_) rfl (by kernel_rfl) (by kernel_rfl) (by kernel_rfl) (fun _ _ _ h => h) (Or.inl ⟨by rfl, ?_⟩) (by assumption) ?_
          rotate_left
          · (intro w hSw; (try dsimp only at hSw); go_simp; (try (with_reducible rfl)))
          try simp only [Act.put, List.setIfInBounds_toArray, List.set_cons_zero, List.set_cons_succ]
          refine wpAnyH_take (i := 5) (oi := ⟨some 46, _, _, _, _, _⟩) (v := ?_) rfl (by kernel_rfl) (by kernel_rfl) (by kernel_rfl) (fun _ _ _ h => h) (Or.inl ⟨by rfl, ?_⟩) (by assumption) ?_
          rotate_left
          · (intro w hSw; (try dsimp only at hSw); go_simp; (try (with_reducible rfl)))
          try simp only [Act.put, List.setIfInBounds_toArray, List.set_cons_zero, List.set_cons_succ]
          refine wpAnyH_take (i := 6) (oi := ⟨some 47, _, _, _, _, _⟩) (v := ?_) rfl (by kernel_rfl) (by kernel_rfl) (by kernel_rfl) (fun _ _ _ h => h) (Or.inl ⟨by rfl, ?_⟩) (by assumption) ?_
          rotate_left
          · (intro w hSw; (try dsimp only at hSw); go_simp; (try (with_reducible rfl)))
          try simp only [Act.put, List.setIfInBounds_toArray, List.set_cons_zero, List.set_cons_succ]
          refine wpAnyH_take (i := 7) (oi := ⟨some 48, _, _, _, _, _⟩) (v := ?_) rfl (by kernel_rfl) (by kernel_rfl) (by kernel_rfl) (fun _ _ _ h => h) (Or.inl ⟨by rfl, ?_⟩) (by assumption) ?_
          rotate_left
          · (intro w hSw; (try dsimp only at hSw); go_simp; (try (with_reducible rfl)))
          try simp only [Act.put, List.setIfInBounds_toArray, List.set_cons_zero, List.set_cons_succ]
          refine wpAnyH_take (i := 8) (oi := ⟨some 49, _, _, _, _, _⟩) (v := ?_) rfl (by kernel_rfl) (by kernel_rfl) (by kernel_rfl) (fun _ _ _ h => h) (Or.inl ⟨by rfl, ?_⟩) (by assumption) ?_
          rotate_left
          · (intro w hSw; (try dsimp only at hSw); go_simp; (try (with_reducible rfl)))
          try simp only [Act.put, List.setIfInBounds_toArray, List.set_cons_zero, List.set_cons_succ]
          refine wpAnyH_take (i := 9) (oi := ⟨some 50, _, _, _, _, _⟩) (v := ?_) rfl (by kernel_rfl) (by kernel_rfl) (by kernel_rfl) (fun _ _ _ h => h) (Or.inl ⟨by rfl, ?_⟩) (by assumption) ?_
          rotate_left
          · (intro w hSw; (try dsimp only at hSw); go_simp; (try (with_reducible rfl)))
          try simp only [Act.put, List.setIfInBounds_toArray, List.set_cons_zero, List.set_cons_succ]
          refine wpAnyH_take (i := 10) (oi := ⟨some 51, _, _, _, _, _⟩) (v := ?_) rfl (by kernel_rfl) (by kernel_rfl) (by kernel_rfl) (fun _ _ _ h => h) (Or.inl ⟨by rfl, ?_⟩) (by assumption) ?_
          rotate_left
          · (intro w hSw; (try dsimp only at hSw); go_simp; (try (with_reducible rfl)))
          try simp only [Act.put, List.setIfInBounds_toArray, List.set_cons_zero, List.set_cons_succ]
          refine wpAnyH_take (i := 12) (oi := ⟨some 53, _, _, _, _, _⟩) (v := ?_) rfl (by kernel_rfl) (by kernel_rfl) (by kernel_rfl) (fun _ _ _ h => h) (Or.inl ⟨by rfl, ?_⟩) (by assumption) ?_
          rotate_left
          · (intro w hSw; (try dsimp only at hSw); go_simp; (try (with_reducible rfl)))
          try simp only [Act.put, List.setIfInBounds_toArray, List.set_cons_zero, List.set_cons_succ]
          refine wpAnyH_take (i := 13) (oi := ⟨some 54, _, _, _, _, _⟩) (v := ?_) rfl (by kernel_rfl) (by kernel_rfl) (by kernel_rfl) (fun _ _ _ h => h) (Or.inl ⟨by rfl, ?_⟩) (by assumption) ?_
          rotate_left
          · (intro w hSw; (try dsimp only at hSw); go_simp; (try (with_reducible rfl)))
          try simp only [Act.put, List.setIfInBounds_toArray, List.set_cons_zero, List.set_cons_succ]
          refine wpAnyH_ready (rs := [11]) (by kernel_rfl) (by simp) ?_
          refine AllReadyH.cons (o := ⟨some 52, _, _, _, _, _⟩) rfl (fun K hK => ?_) AllReadyH.nil
          go_simp
          (with_reducible refine (HAQ.out wr.drew (Below.refl _ _).drew).mono ?_); rintro e w4 ⟨rfl, b4⟩; have d4 : Below wr.heap.size wr w4 := btrans (Below.refl _ _).drew b4; obtain ⟨k0, k1, k2, k3, k4⟩ := HSK.out w4 d4
          go_wp2_with fail
          refine hK.out _ _ (by (try dsimp only); simp [*]) (fun hHeld => ?_)
          clear hK K
          try simp only [List.setIfInBounds_toArray, List.set_cons_zero, List.set_cons_succ]
          refine wpAnyH_ready (rs := [14]) (by kernel_rfl) (by simp) ?_
          refine AllReadyH.cons (o := ⟨some 55, _, _, _, _, _⟩) rfl (fun K hK => ?_) AllReadyH.nil
          go_simp
          (with_reducible refine (l1In_any av 0 (tv - 1) w4).mono ?_); rintro e w' ⟨rfl, rfl⟩
          go_wp2_with fail
          refine hK.out _ _ (by (try dsimp only); simp [*]) (fun hHeld => ?_)
          clear hK K
          try simp only [List.setIfInBounds_toArray, List.set_cons_zero, List.set_cons_succ]
          refine wpAnyH_done (by kernel_rfl) ?_ _
          have HB4 := Lib.hid (btrans HBY.out d4)
          have HK4 := Lib.hid (HBK.out.below d4 HBK.out.lt)
          clear hHeld p0 p1 p2 s3 q7 k0 k1 k2 k3 k4 b4 d4
          rw [HIB.out]
          go_wp2_with fail
          go_roundg g2'
          case measure => omega
          case rel => exact ⟨i + 1, by omega, by go_num, HN, HK4.out, HB4.out⟩
end Go.Proofs.Ytjcnngnahijceaa.cpfs

/- The contract of slices.Max over integers. -/
namespace Go.Proofs.Ytjcnngnahijceaa.maxi
open Go.RowKit P2 words ints
set_option linter.unusedVariables false

def MaxIs (xs : List Int) (M : Int) : Prop := (∀ y ∈ xs, y ≤ M) ∧ M ∈ xs
/-- the greatest so far -/
def MaxTo (xs : List Int) (k : Nat) (M : Int) : Prop := (∀ j y, j < k → xs[j]? = some y → y ≤ M) ∧ M ∈ xs
theorem MaxTo.succ {xs : List Int} {k : Nat} {M y : Int} (h : MaxTo xs k M) (hy : xs[k]? = some y) : MaxTo xs (k + 1) (if M < y then y else M) := by
  rw [show (if M < y then y else M) = max M y from by split <;> omega]
  refine ⟨fun j z hj hz => ?_, ?_⟩
  · by_cases e : j = k
    · subst e; rw [hy] at hz; cases hz; omega
    · have := h.1 j z (by omega) hz; omega
  · by_cases e : M ≤ y
    · rw [Int.max_eq_right e]; exact List.mem_of_getElem? hy
    · rw [Int.max_eq_left (by omega)]; exact h.2
theorem MaxTo.all {xs : List Int} {M : Int} (h : MaxTo xs xs.length M) : MaxIs xs M :=
  ⟨fun y hy => by
    obtain ⟨j, hj⟩ := List.mem_iff_getElem?.1 hy
    exact h.1 j y (List.getElem?_eq_some_iff.1 hj).1 hj, h.2⟩
end Go.Proofs.Ytjcnngnahijceaa.maxi

/- Capture proofs: what the program asks of one number, and the contract of its isProven. -/
namespace Go.Proofs.Ytjcnngnahijceaa.cpfs
open Go.RowKit P2 words edges ints good adjs fns sets rets covs bitsI bags gridr mids grid reps apps times lists balls cops func
set_option linter.unusedVariables false

def prvB (G : Game) (T : Nat → Nat → Int) (l : List Ed) (p r : Nat) : Bool :=
  if T p r < 1 then (T p r == -1 || (T p r == 0 && G.tk p r)) else (nw (G.mv p) G.P).any (fun q => G.tk q.toNat r || !((ballL l G.n r).any fun x => escB T (T p r) q.toNat x.toNat))
theorem prv_low {G : Game} {T : Nat → Nat → Int} {l : List Ed} {p r : Nat} (h : T p r < -1) : prvB G T l p r = false := by
  unfold prvB
  rw [if_pos (by omega), beq_eq_false_iff_ne.2 (by omega), beq_eq_false_iff_ne.2 (by omega)]
  rfl
theorem prv_iff {G : Game} {T : Nat → Nat → Int} {l : List Ed} {p r : Nat} (h : -1 ≤ T p r) : prvB G T l p r = true ↔ PrvP G T l p r := by
  unfold prvB PrvP
  by_cases h1 : T p r < 1
  · rw [if_pos h1, Bool.or_eq_true, Bool.and_eq_true, beq_iff_eq, beq_iff_eq]
    constructor
    · rintro (h2 | ⟨h2, h3⟩)
      · exact .inl (.inl (by omega))
      · exact .inl (.inr ⟨h2, h3⟩)
    · rintro ((h2 | ⟨h2, h3⟩) | ⟨h2, _⟩)
      · exact .inl (by omega)
      · exact .inr ⟨h2, h3⟩
      · omega
  · rw [if_neg h1, List.any_eq_true]
    have key : ∀ q : Nat, (G.tk q r || !((ballL l G.n r).any fun x => escB T (T p r) q x.toNat)) = true ↔ 0 ≤ afterG G T l q r ∧ afterG G T l q r ≤ T p r - 1 := fun q => by
      unfold afterG
      by_cases ht : G.tk q r = true
      · rw [if_pos ht, ht, Bool.true_or]
        exact ⟨fun _ => ⟨by omega, by omega⟩, fun _ => rfl⟩
      · rw [if_neg ht, show G.tk q r = false from by simpa using ht, Bool.false_or, Bool.not_eq_true', List.any_eq_false]
        constructor
        · intro hno
          have hw : 0 ≤ worstL (fun x => T q x.toNat) (ballL l G.n r) := worst_iff.2 fun b hb => by
            have := hno b hb
            unfold escB at this
            simp at this
            omega
          refine ⟨hw, (worst_le hw).2 ⟨by omega, fun b hb => ?_⟩⟩
          have := hno b hb
          unfold escB at this
          simp at this
          omega
        · rintro ⟨hw, h2⟩ b hb
          have h3 := worst_iff.1 hw b hb
          have h4 := ((worst_le hw).1 h2).2 b hb
          unfold escB
          simp
          omega
    constructor
    · rintro ⟨q, hq, hh⟩
      obtain ⟨j, hj, hm, rfl⟩ := mem_nw.1 hq
      rw [Int.toNat_natCast] at hh
      exact .inr ⟨by omega, j, hj, hm, (key j).1 hh⟩
    · rintro (h2 | ⟨_, q, hq, hm, hh⟩)
      · omega
      · refine ⟨(q : Int), mem_nw.2 ⟨q, hq, hm, rfl⟩, ?_⟩
        rw [Int.toNat_natCast]
        exact (key q).2 hh
theorem nodes_clo {n x : Nat} {l : List Ed} (hg : P2.Good (n : Int) l) (hn : n ≤ 8) (hx : x < n) : nw (bitB (cloB l x)) 8 = ballL l n x := by
  unfold ballL
  rw [nw_more (p := bitB (cloB l x)) hn fun k h1 h2 => by
    unfold bitB
    rw [cloB_bit hg, Bool.or_eq_false_iff]
    refine ⟨by simp; omega, ?_⟩
    cases ha : adj l (x : Int) (k : Int) with
    | false => rfl
    | true => have := (adj_node hg ha).2; omega]
  exact reach.nw_congr fun z hz => by
    unfold bitB ballB
    rw [cloB_bit hg]
set_option maxHeartbeats 4000000 in
set_option maxRecDepth 100000 in
theorem isProven_any (n k p r : Nat) (T : Nat → Nat → Int) (l : List Ed) (cv tv mv xv t : Value) (us ut : List Value) (w : World) (h : ChaseR w (gameN l n k) l (mvG l n k) cv tv mv us) (hx : ∃ A m c, xv = .slice A m c) (ht : ReadsG w t ut (gridG (gameN l n k).P n T)) (hn : n ≤ 8) (hp : p < (gameN l n k).P) (hr : r < n) :
    Calls Try.prog 88 #[.agg #[cv, tv, mv, xv], t, .int .i64 (p : Int), .int .i64 (r : Int)] w fun e w' => e = .returned (.bool (prvB (gameN l n k) T l p r)) ∧ Below w.heap.size w w' := by
  obtain ⟨Ax, mx, cx, rfl⟩ := hx
  have hgn : (gameN l n k).n = n := rfl
  have hG : P2.Good (n : Int) l := h.good
  obtain ⟨Ac, cc, rfl, hcc⟩ := (show Nums w cv (clos l n) from h.closed).form
  obtain ⟨Ak, ck, rfl, hkk⟩ := (show Nums w tv (codesL (gameN l n k).P n (gameN l n k).tk) from h.taken).form
  obtain ⟨Am, cm, rfl, -⟩ := h.lists.1
  obtain ⟨At, ct, rfl, -⟩ := ht.1
  obtain ⟨u1, g1, o1, hu1, rfl, c1, hri⟩ := ht.row (gridG_at (T := T) (n := n) hp)
  obtain ⟨A2, c2, rfl, hc2⟩ := hri.form
  obtain ⟨g2, o2, rfl, d2⟩ := hc2 r _ (rowG_at hr)
  obtain ⟨u3, g3, o3, hu3, rfl, c3, hmi⟩ := h.lists.row (mvG_at hp)
  obtain ⟨A4, c4, rfl, -⟩ := hmi.form
  obtain ⟨g5, o5, rfl, d5⟩ := hcc r _ (clos_at hr)
  obtain ⟨g6, o6, rfl, d6⟩ := hkk p _ (show (codesL (gameN l n k).P n (gameN l n k).tk)[p]? = some (numOf ((gameN l n k).tk p) n) by simp [codesL, hp])
  rw [codesL_len] at *
  rw [clos_len] at *
  rw [gridG_len] at *
  rw [mvG_len] at *
  rw [rowG_len] at c1
  have hpP : (p : Int) < ((gameN l n k).P : Int) := by omega
  have hrn : (r : Int) < (n : Int) := by omega
  have hmx : (mvN l n k p).length ≤ 200 := by have := mvN_len l n k p; have := h.small; omega
  have HRR := Lib.hid h
  have HTT := Lib.hid ht
  have HMI := Lib.hid hmi
  have HV : Hid (prvB (gameN l n k) T l p r = if T p r < 1 then (T p r == -1 || (T p r == 0 && (gameN l n k).tk p r)) else (mvN l n k p).any (fun q => (gameN l n k).tk q.toNat r || !((ballL l n r).any fun x => escB T (T p r) q.toNat x.toNat))) := rfl
  rw [HV.out]
  clear HV
  have hsm := h.small
  generalize T p r = nv at *
  generalize hav : (if nv < 1 then (nv == -1 || (nv == 0 && (gameN l n k).tk p r)) else (mvN l n k p).any (fun q => (gameN l n k).tk q.toNat r || !((ballL l n r).any fun x => escB T nv q.toNat x.toNat))) = av
  have HAV := Lib.hid hav
  clear hav
  have b3 : Below w.heap.size w (((w.alloc (.cells #[.slice (some ⟨g5, o5, none⟩) n cc, .slice (some ⟨g6, o6, none⟩) (gameN l n k).P ck, .slice (some ⟨g3, o3, none⟩) (gameN l n k).P cm, .slice Ax mx cx] 95)).alloc (.cells #[.slice (some ⟨g1, o1, none⟩) (gameN l n k).P ct] 42)).alloc (.cells #[.int .i64 (r : Int)] 3)) := (((Below.refl _ _).alloc (Nat.le_refl _) _).alloc (by simp) _).alloc (by simp; omega) _
  have gC := ((Blk.new w 95 #[.slice (some ⟨g5, o5, none⟩) n cc, .slice (some ⟨g6, o6, none⟩) (gameN l n k).P ck, .slice (some ⟨g3, o3, none⟩) (gameN l n k).P cm, .slice Ax mx cx]).alloc (.cells #[.slice (some ⟨g1, o1, none⟩) (gameN l n k).P ct] 42)).alloc (.cells #[.int .i64 (r : Int)] 3)
  have gT := Blk.new (w.alloc (.cells #[.slice (some ⟨g5, o5, none⟩) n cc, .slice (some ⟨g6, o6, none⟩) (gameN l n k).P ck, .slice (some ⟨g3, o3, none⟩) (gameN l n k).P cm, .slice Ax mx cx] 95)) 42 #[.slice (some ⟨g1, o1, none⟩) (gameN l n k).P ct]
  rw [World.size_alloc] at gT
  have gT3 := gT.alloc (.cells #[.int .i64 (r : Int)] 3)
  have gR3 := Blk.new ((w.alloc (.cells #[.slice (some ⟨g5, o5, none⟩) n cc, .slice (some ⟨g6, o6, none⟩) (gameN l n k).P ck, .slice (some ⟨g3, o3, none⟩) (gameN l n k).P cm, .slice Ax mx cx] 95)).alloc (.cells #[.slice (some ⟨g1, o1, none⟩) (gameN l n k).P ct] 42)) 3 #[.int .i64 (r : Int)]
  rw [World.size_alloc, World.size_alloc] at gR3
  have q0 := gT3.cell 0
  have q1 := gR3.cell 0
  have q2 := nearv.cell_keep c1 b3
  have q3 := nearv.cell_keep d2 b3
  have q4 := nearv.cell_keep d5 b3
  have q5 := nearv.cell_keep d6 b3
  have q6 := nearv.cell_keep c3 b3
  have HB3 := Lib.hid b3
  have HGC := Lib.hid gC
  have HGT := Lib.hid gT3
  have HGR := Lib.hid gR3
  have HQ := Lib.hid (And.intro q0 (And.intro q1 (And.intro q2 (And.intro q3 (And.intro q4 (And.intro q5 q6))))))
  have HT3 := Lib.hid (ht.below b3)
  have HM3 := Lib.hid (hmi.below b3)
  have HK3 := Lib.hid (show Nums (((w.alloc (.cells #[.slice (some ⟨g5, o5, none⟩) n cc, .slice (some ⟨g6, o6, none⟩) (gameN l n k).P ck, .slice (some ⟨g3, o3, none⟩) (gameN l n k).P cm, .slice Ax mx cx] 95)).alloc (.cells #[.slice (some ⟨g1, o1, none⟩) (gameN l n k).P ct] 42)).alloc (.cells #[.int .i64 (r : Int)] 3)) (.slice (some ⟨g6, o6, none⟩) (gameN l n k).P ck) (codesL (gameN l n k).P n (gameN l n k).tk) from h.taken.below b3)
  have HHA := Lib.hid (fun (W : World) => has_any (numOf ((gameN l n k).tk p) n) r W (by have := numOf_lt ((gameN l n k).tk p) hn; omega) (by omega))
  rw [show (numOf ((gameN l n k).tk p) n).testBit r = (gameN l n k).tk p r from by rw [numOf_bit, decide_eq_true hr]; rfl] at HHA
  have HND := Lib.hid (fun (W : World) => nodes_any (cloB l r) W (by have := cloB_lt' hG r (by omega); omega))
  rw [nodes_clo hG hn hr] at HND
  clear h ht hmi hri hcc hkk hc2 gC gT gT3 gR3 b3 c1 d2 d5 d6 c3 HRR HTT HMI q4 q5 q6
  generalize hnm : numOf ((gameN l n k).tk p) n = nm at *
  clear hnm
  go_enter Try.func88, Try.ntmps88
  go_wp2_with fail
  have hsz3 : (((w.alloc (.cells #[.slice (some ⟨g5, o5, none⟩) n cc, .slice (some ⟨g6, o6, none⟩) (gameN l n k).P ck, .slice (some ⟨g3, o3, none⟩) (gameN l n k).P cm, .slice Ax mx cx] 95)).alloc (.cells #[.slice (some ⟨g1, o1, none⟩) (gameN l n k).P ct] 42)).alloc (.cells #[.int .i64 (r : Int)] 3)).heap.size = w.heap.size + 1 + 1 + 1 := by simp
  generalize (((w.alloc (.cells #[.slice (some ⟨g5, o5, none⟩) n cc, .slice (some ⟨g6, o6, none⟩) (gameN l n k).P ck, .slice (some ⟨g3, o3, none⟩) (gameN l n k).P cm, .slice Ax mx cx] 95)).alloc (.cells #[.slice (some ⟨g1, o1, none⟩) (gameN l n k).P ct] 42)).alloc (.cells #[.int .i64 (r : Int)] 3)) = w3 at *
  have HSZ := Lib.hid hsz3
  clear hsz3
  have HSK : Hid (∀ W', Below w3.heap.size w3 W' → (fun w' : World => w'.cell? ⟨w.heap.size + 1, 0, none⟩ = some (.slice (some ⟨g1, o1, none⟩) (gameN l n k).P ct) ∧ w'.cell? ⟨w.heap.size + 1 + 1, 0, none⟩ = some (.int .i64 (r : Int)) ∧ w'.cell? ⟨g1, o1 + p, none⟩ = some (.slice (some ⟨g2, o2, none⟩) n c2) ∧ w'.cell? ⟨g2, o2 + r, none⟩ = some (.int .i64 nv)) W') := fun W' hW => ⟨nearv.cell_keep HQ.out.1 hW, nearv.cell_keep HQ.out.2.1 hW, nearv.cell_keep HQ.out.2.2.1 hW, nearv.cell_keep HQ.out.2.2.2.1 hW⟩
  have d7 : Below w3.heap.size w3 (w3.alloc (.cells #[.int .i64 0] 3)).drew := ((Below.refl _ _).alloc (Nat.le_refl _) _).drew
  have d8 : Below w3.heap.size w3 (w3.alloc (.cells #[.int .i64 nv] 3)).drew := ((Below.refl _ _).alloc (Nat.le_refl _) _).drew
  have gN := Blk.new w3 3 #[.int .i64 0]
  have n0 := gN.cell 0
  have n1 := gN.frozen 0
  refine wp_region_held_drew (S := (fun w' : World => w'.cell? ⟨w.heap.size + 1, 0, none⟩ = some (.slice (some ⟨g1, o1, none⟩) (gameN l n k).P ct) ∧ w'.cell? ⟨w.heap.size + 1 + 1, 0, none⟩ = some (.int .i64 (r : Int)) ∧ w'.cell? ⟨g1, o1 + p, none⟩ = some (.slice (some ⟨g2, o2, none⟩) n c2) ∧ w'.cell? ⟨g2, o2 + r, none⟩ = some (.int .i64 nv))) (by kernel_rfl) (by (try dsimp only); simp [*]) (fun hHeld => ?_)
  change wpAnyH _ _ _ _ _ _ #[false, false, false, false, false, false, false, false, false] _ _
  refine wpAnyH_take (i := 0) (oi := ⟨some 11, _, _, _, _, _⟩) (v := ?_) rfl (by kernel_rfl) (by kernel_rfl) (by kernel_rfl) (fun _ _ _ h => h) (Or.inl ⟨by rfl, ?_⟩) (by assumption) ?_
  rotate_left
  · (intro w hSw; (try dsimp only at hSw); go_simp; (try (with_reducible rfl)))
  try simp only [Act.put, List.setIfInBounds_toArray, List.set_cons_zero, List.set_cons_succ]
  refine wpAnyH_take (i := 1) (oi := ⟨some 12, _, _, _, _, _⟩) (v := ?_) rfl (by kernel_rfl) (by kernel_rfl) (by kernel_rfl) (fun _ _ _ h => h) (Or.inl ⟨by rfl, ?_⟩) (by assumption) ?_
  rotate_left
  · (intro w hSw; (try dsimp only at hSw); go_simp; (try (with_reducible rfl)))
  try simp only [Act.put, List.setIfInBounds_toArray, List.set_cons_zero, List.set_cons_succ]
  refine wpAnyH_take (i := 2) (oi := ⟨some 13, _, _, _, _, _⟩) (v := ?_) rfl (by kernel_rfl) (by kernel_rfl) (by kernel_rfl) (fun _ _ _ h => h) (Or.inl ⟨by rfl, ?_⟩) (by assumption) ?_
  rotate_left
  · (intro w hSw; (try dsimp only at hSw); go_simp; (try (with_reducible rfl)))
  try simp only [Act.put, List.setIfInBounds_toArray, List.set_cons_zero, List.set_cons_succ]
  refine wpAnyH_take (i := 3) (oi := ⟨some 14, _, _, _, _, _⟩) (v := ?_) rfl (by kernel_rfl) (by kernel_rfl) (by kernel_rfl) (fun _ _ _ h => h) (Or.inl ⟨by rfl, ?_⟩) (by assumption) ?_
  rotate_left
  · (intro w hSw; (try dsimp only at hSw); go_simp; (try (with_reducible rfl)))
  try simp only [Act.put, List.setIfInBounds_toArray, List.set_cons_zero, List.set_cons_succ]
  refine wpAnyH_take (i := 4) (oi := ⟨some 15, _, _, _, _, _⟩) (v := ?_) rfl (by kernel_rfl) (by kernel_rfl) (by kernel_rfl) (fun _ _ _ h => h) (Or.inl ⟨by rfl, ?_⟩) (by assumption) ?_
  rotate_left
  · (intro w hSw; (try dsimp only at hSw); go_simp; (try (with_reducible rfl)))
  try simp only [Act.put, List.setIfInBounds_toArray, List.set_cons_zero, List.set_cons_succ]
  refine wpAnyH_take (i := 5) (oi := ⟨some 16, _, _, _, _, _⟩) (v := ?_) rfl (by kernel_rfl) (by kernel_rfl) (by kernel_rfl) (fun _ _ _ h => h) (Or.inl ⟨by rfl, ?_⟩) (by assumption) ?_
  rotate_left
  · (intro w hSw; (try dsimp only at hSw); go_simp; (try (with_reducible rfl)))
  try simp only [Act.put, List.setIfInBounds_toArray, List.set_cons_zero, List.set_cons_succ]
  refine wpAnyH_take (i := 6) (oi := ⟨some 17, _, _, _, _, _⟩) (v := ?_) rfl (by kernel_rfl) (by kernel_rfl) (by kernel_rfl) (fun _ _ _ h => h) (Or.inl ⟨by rfl, ?_⟩) (by assumption) ?_
  rotate_left
  · (intro w hSw; (try dsimp only at hSw); go_simp; (try (with_reducible rfl)))
  try simp only [Act.put, List.setIfInBounds_toArray, List.set_cons_zero, List.set_cons_succ]
  refine wpAnyH_ready (rs := [7]) (by kernel_rfl) (by simp) ?_
  refine AllReadyH.cons rfl (fun K hK => ?_) AllReadyH.nil
  go_simp
  refine hK.out _ _ (HSK.out _ d7) (fun hHeld => ?_)
  clear hK K
  try simp only [List.setIfInBounds_toArray, List.set_cons_zero, List.set_cons_succ]
  refine wpAnyH_ready (rs := [8]) (by kernel_rfl) (by simp) ?_
  refine AllReadyH.cons rfl (fun K hK => ?_) AllReadyH.nil
  go_simp
  refine hK.out _ _ (HSK.out _ d8) (fun hHeld => ?_)
  clear hK K
  refine wpAnyH_done (by kernel_rfl) ?_ _
  have HGN5 : Hid (Blk (w3.alloc (.cells #[.int .i64 nv] 3)).drew w3.heap.size 3 #[.int .i64 nv]) := Blk.new w3 3 #[.int .i64 nv]
  have HGC5 := Lib.hid (HGC.out.below d8 HGC.out.lt)
  have HGT5 := Lib.hid (HGT.out.below d8 HGT.out.lt)
  have HGR5 := Lib.hid (HGR.out.below d8 HGR.out.lt)
  have HT5 := Lib.hid (HT3.out.below d8)
  have HM5 := Lib.hid (HM3.out.below d8)
  have HK5 := Lib.hid (HK3.out.below d8)
  have HB5 := Lib.hid (btrans HB3.out d8)
  have x6 := nearv.cell_keep HQ.out.2.2.2.2.1 d8
  have x7 := nearv.cell_keep HQ.out.2.2.2.2.2.1 d8
  have x8 := nearv.cell_keep HQ.out.2.2.2.2.2.2 d8
  clear q0 q1 q2 q3 d7 d8 gN n0 n1 hHeld HSK HQ HGC HGT HGR HT3 HM3 HK3 HB3
  generalize (w3.alloc (.cells #[.int .i64 nv] 3)).drew = w5 at *
  obtain ⟨x0, x1, x2, x3⟩ := blk4 HGC5.out
  have x4 := HGR5.out.cell 0
  have x5 := HGN5.out.cell 0
  have x9 := HGT5.out.cell 0
  have hHA := HHA.out w5.drew
  by_cases h1 : nv < 1
  · have HAV2 : Hid ((nv == -1 || (nv == 0 && (gameN l n k).tk p r)) = av) := by have h_ := HAV.out; rw [if_pos h1] at h_; exact h_
    clear HAV
    clear x0 x2 x3 x6 x8 x9 HGC5 HGT5 HND HT5 HM5 HK5 HGN5 HGR5
    generalize (gameN l n k).tk p r = bb at *
    by_cases h2 : nv = -1
    · subst h2
      go_wp2_with fail
      refine wp_region_held_drew (S := (fun w' : World => w'.cell? ⟨w3.heap.size, 0, none⟩ = some (.int .i64 (-1)) ∧ w'.cell? ⟨w.heap.size, 1, none⟩ = some (.slice (some ⟨g6, o6, none⟩) (gameN l n k).P ck) ∧ w'.cell? ⟨g6, o6 + p, none⟩ = some (.int .u64 (nm : Int)) ∧ w'.cell? ⟨w.heap.size + 1 + 1, 0, none⟩ = some (.int .i64 (r : Int)))) (by kernel_rfl) (by (try dsimp only); simp [*]) (fun hHeld => ?_)
      change wpAnyH _ _ _ _ _ _ #[false, false, false, false, false, false, false, false, false, false, false, false, false, false, false, false] _ _
      refine wpAnyH_take (i := 0) (oi := ⟨some 20, _, _, _, _, _⟩) (v := ?_) rfl (by kernel_rfl) (by kernel_rfl) (by kernel_rfl) (fun _ _ _ h => h) (Or.inl ⟨by rfl, ?_⟩) (by assumption) ?_
      rotate_left
      · (intro w hSw; (try dsimp only at hSw); go_simp; (try (with_reducible rfl)))
      try simp only [Act.put, List.setIfInBounds_toArray, List.set_cons_zero, List.set_cons_succ]
      refine wpAnyH_take (i := 1) (oi := ⟨some 21, _, _, _, _, _⟩) (v := ?_) rfl (by kernel_rfl) (by kernel_rfl) (by kernel_rfl) (fun _ _ _ h => h) (Or.inl ⟨by rfl, ?_⟩) (by assumption) ?_
      rotate_left
      · (intro w hSw; (try dsimp only at hSw); go_simp; (try (with_reducible rfl)))
      try simp only [Act.put, List.setIfInBounds_toArray, List.set_cons_zero, List.set_cons_succ]
      refine wpAnyH_take (i := 2) (oi := ⟨some 22, _, _, _, _, _⟩) (v := ?_) rfl (by kernel_rfl) (by kernel_rfl) (by kernel_rfl) (fun _ _ _ h => h) (Or.inl ⟨by rfl, ?_⟩) (by assumption) ?_
      rotate_left
      · (intro w hSw; (try dsimp only at hSw); go_simp; (try (with_reducible rfl)))
      try simp only [Act.put, List.setIfInBounds_toArray, List.set_cons_zero, List.set_cons_succ]
      refine wpAnyH_take (i := 3) (oi := ⟨some 23, _, _, _, _, _⟩) (v := undef) rfl (by kernel_rfl) (by kernel_rfl) (by kernel_rfl) (fun _ _ _ h => h) (Or.inr ⟨by rfl, rfl⟩) (by assumption) ?_
      try simp only [Act.put, List.setIfInBounds_toArray, List.set_cons_zero, List.set_cons_succ]
      refine wpAnyH_take (i := 4) (oi := ⟨some 24, _, _, _, _, _⟩) (v := undef) rfl (by kernel_rfl) (by kernel_rfl) (by kernel_rfl) (fun _ _ _ h => h) (Or.inr ⟨by rfl, rfl⟩) (by assumption) ?_
      try simp only [Act.put, List.setIfInBounds_toArray, List.set_cons_zero, List.set_cons_succ]
      refine wpAnyH_take (i := 5) (oi := ⟨some 25, _, _, _, _, _⟩) (v := undef) rfl (by kernel_rfl) (by kernel_rfl) (by kernel_rfl) (fun _ _ _ h => h) (Or.inr ⟨by rfl, rfl⟩) (by assumption) ?_
      try simp only [Act.put, List.setIfInBounds_toArray, List.set_cons_zero, List.set_cons_succ]
      refine wpAnyH_take (i := 6) (oi := ⟨some 26, _, _, _, _, _⟩) (v := undef) rfl (by kernel_rfl) (by kernel_rfl) (by kernel_rfl) (fun _ _ _ h => h) (Or.inr ⟨by rfl, rfl⟩) (by assumption) ?_
      try simp only [Act.put, List.setIfInBounds_toArray, List.set_cons_zero, List.set_cons_succ]
      refine wpAnyH_take (i := 7) (oi := ⟨some 27, _, _, _, _, _⟩) (v := undef) rfl (by kernel_rfl) (by kernel_rfl) (by kernel_rfl) (fun _ _ _ h => h) (Or.inr ⟨by rfl, rfl⟩) (by assumption) ?_
      try simp only [Act.put, List.setIfInBounds_toArray, List.set_cons_zero, List.set_cons_succ]
      refine wpAnyH_take (i := 8) (oi := ⟨some 28, _, _, _, _, _⟩) (v := undef) rfl (by kernel_rfl) (by kernel_rfl) (by kernel_rfl) (fun _ _ _ h => h) (Or.inr ⟨by rfl, rfl⟩) (by assumption) ?_
      try simp only [Act.put, List.setIfInBounds_toArray, List.set_cons_zero, List.set_cons_succ]
      refine wpAnyH_take (i := 9) (oi := ⟨some 29, _, _, _, _, _⟩) (v := undef) rfl (by kernel_rfl) (by kernel_rfl) (by kernel_rfl) (fun _ _ _ h => h) (Or.inr ⟨by rfl, rfl⟩) (by assumption) ?_
      try simp only [Act.put, List.setIfInBounds_toArray, List.set_cons_zero, List.set_cons_succ]
      refine wpAnyH_take (i := 10) (oi := ⟨some 30, _, _, _, _, _⟩) (v := undef) rfl (by kernel_rfl) (by kernel_rfl) (by kernel_rfl) (fun _ _ _ h => h) (Or.inr ⟨by rfl, rfl⟩) (by assumption) ?_
      try simp only [Act.put, List.setIfInBounds_toArray, List.set_cons_zero, List.set_cons_succ]
      refine wpAnyH_take (i := 11) (oi := ⟨some 31, _, _, _, _, _⟩) (v := undef) rfl (by kernel_rfl) (by kernel_rfl) (by kernel_rfl) (fun _ _ _ h => h) (Or.inr ⟨by rfl, rfl⟩) (by assumption) ?_
      try simp only [Act.put, List.setIfInBounds_toArray, List.set_cons_zero, List.set_cons_succ]
      refine wpAnyH_take (i := 12) (oi := ⟨some 32, _, _, _, _, _⟩) (v := undef) rfl (by kernel_rfl) (by kernel_rfl) (by kernel_rfl) (fun _ _ _ h => h) (Or.inr ⟨by rfl, rfl⟩) (by assumption) ?_
      try simp only [Act.put, List.setIfInBounds_toArray, List.set_cons_zero, List.set_cons_succ]
      refine wpAnyH_take (i := 13) (oi := ⟨some 33, _, _, _, _, _⟩) (v := undef) rfl (by kernel_rfl) (by kernel_rfl) (by kernel_rfl) (fun _ _ _ h => h) (Or.inr ⟨by rfl, rfl⟩) (by assumption) ?_
      try simp only [Act.put, List.setIfInBounds_toArray, List.set_cons_zero, List.set_cons_succ]
      refine wpAnyH_take (i := 14) (oi := ⟨some 34, _, _, _, _, _⟩) (v := ?_) rfl (by kernel_rfl) (by kernel_rfl) (by kernel_rfl) (fun _ _ _ h => h) (Or.inl ⟨by rfl, ?_⟩) (by assumption) ?_
      rotate_left
      · (intro w hSw; (try dsimp only at hSw); go_simp; (try (with_reducible rfl)))
      try simp only [Act.put, List.setIfInBounds_toArray, List.set_cons_zero, List.set_cons_succ]
      refine wpAnyH_take (i := 15) (oi := ⟨some 8, _, _, _, _, _⟩) (v := ?_) rfl (by kernel_rfl) (by kernel_rfl) (by kernel_rfl) (fun _ _ _ h => h) (Or.inl ⟨by rfl, ?_⟩) (by assumption) ?_
      rotate_left
      · (intro w hSw; (try dsimp only at hSw); go_simp; (try (with_reducible rfl)))
      try simp only [Act.put, List.setIfInBounds_toArray, List.set_cons_zero, List.set_cons_succ]
      refine wpAnyH_done (by kernel_rfl) ?_ _
      go_wp2_with fail
      go_ret
      exact ⟨ret_bool (by rw [← HAV2.out]; rfl), HB5.out.drew⟩
    · by_cases h3 : nv = 0
      · subst h3
        have HH := Lib.hid hHA
        clear hHA
        go_wp2_with fail
        refine wp_region_held_drew (S := (fun w' : World => w'.cell? ⟨w3.heap.size, 0, none⟩ = some (.int .i64 0) ∧ w'.cell? ⟨w.heap.size, 1, none⟩ = some (.slice (some ⟨g6, o6, none⟩) (gameN l n k).P ck) ∧ w'.cell? ⟨g6, o6 + p, none⟩ = some (.int .u64 (nm : Int)) ∧ w'.cell? ⟨w.heap.size + 1 + 1, 0, none⟩ = some (.int .i64 (r : Int)))) (by kernel_rfl) (by (try dsimp only); simp [*]) (fun hHeld => ?_)
        change wpAnyH _ _ _ _ _ _ #[false, false, false, false, false, false, false, false, false, false, false, false, false, false, false, false] _ _
        refine wpAnyH_take (i := 0) (oi := ⟨some 20, _, _, _, _, _⟩) (v := ?_) rfl (by kernel_rfl) (by kernel_rfl) (by kernel_rfl) (fun _ _ _ h => h) (Or.inl ⟨by rfl, ?_⟩) (by assumption) ?_
        rotate_left
        · (intro w hSw; (try dsimp only at hSw); go_simp; (try (with_reducible rfl)))
        try simp only [Act.put, List.setIfInBounds_toArray, List.set_cons_zero, List.set_cons_succ]
        refine wpAnyH_take (i := 1) (oi := ⟨some 21, _, _, _, _, _⟩) (v := ?_) rfl (by kernel_rfl) (by kernel_rfl) (by kernel_rfl) (fun _ _ _ h => h) (Or.inl ⟨by rfl, ?_⟩) (by assumption) ?_
        rotate_left
        · (intro w hSw; (try dsimp only at hSw); go_simp; (try (with_reducible rfl)))
        try simp only [Act.put, List.setIfInBounds_toArray, List.set_cons_zero, List.set_cons_succ]
        refine wpAnyH_take (i := 2) (oi := ⟨some 22, _, _, _, _, _⟩) (v := ?_) rfl (by kernel_rfl) (by kernel_rfl) (by kernel_rfl) (fun _ _ _ h => h) (Or.inl ⟨by rfl, ?_⟩) (by assumption) ?_
        rotate_left
        · (intro w hSw; (try dsimp only at hSw); go_simp; (try (with_reducible rfl)))
        try simp only [Act.put, List.setIfInBounds_toArray, List.set_cons_zero, List.set_cons_succ]
        refine wpAnyH_take (i := 3) (oi := ⟨some 23, _, _, _, _, _⟩) (v := ?_) rfl (by kernel_rfl) (by kernel_rfl) (by kernel_rfl) (fun _ _ _ h => h) (Or.inl ⟨by rfl, ?_⟩) (by assumption) ?_
        rotate_left
        · (intro w hSw; (try dsimp only at hSw); go_simp; (try (with_reducible rfl)))
        try simp only [Act.put, List.setIfInBounds_toArray, List.set_cons_zero, List.set_cons_succ]
        refine wpAnyH_take (i := 4) (oi := ⟨some 24, _, _, _, _, _⟩) (v := ?_) rfl (by kernel_rfl) (by kernel_rfl) (by kernel_rfl) (fun _ _ _ h => h) (Or.inl ⟨by rfl, ?_⟩) (by assumption) ?_
        rotate_left
        · (intro w hSw; (try dsimp only at hSw); go_simp; (try (with_reducible rfl)))
        try simp only [Act.put, List.setIfInBounds_toArray, List.set_cons_zero, List.set_cons_succ]
        refine wpAnyH_take (i := 5) (oi := ⟨some 25, _, _, _, _, _⟩) (v := ?_) rfl (by kernel_rfl) (by kernel_rfl) (by kernel_rfl) (fun _ _ _ h => h) (Or.inl ⟨by rfl, ?_⟩) (by assumption) ?_
        rotate_left
        · (intro w hSw; (try dsimp only at hSw); go_simp; (try (with_reducible rfl)))
        try simp only [Act.put, List.setIfInBounds_toArray, List.set_cons_zero, List.set_cons_succ]
        refine wpAnyH_take (i := 6) (oi := ⟨some 26, _, _, _, _, _⟩) (v := ?_) rfl (by kernel_rfl) (by kernel_rfl) (by kernel_rfl) (fun _ _ _ h => h) (Or.inl ⟨by rfl, ?_⟩) (by assumption) ?_
        rotate_left
        · (intro w hSw; (try dsimp only at hSw); go_simp; (try (with_reducible rfl)))
        try simp only [Act.put, List.setIfInBounds_toArray, List.set_cons_zero, List.set_cons_succ]
        refine wpAnyH_take (i := 7) (oi := ⟨some 27, _, _, _, _, _⟩) (v := ?_) rfl (by kernel_rfl) (by kernel_rfl) (by kernel_rfl) (fun _ _ _ h => h) (Or.inl ⟨by rfl, ?_⟩) (by assumption) ?_
        rotate_left
        · (intro w hSw; (try dsimp only at hSw); go_simp; (try (with_reducible rfl)))
        try simp only [Act.put, List.setIfInBounds_toArray, List.set_cons_zero, List.set_cons_succ]
        refine wpAnyH_take (i := 8) (oi := ⟨some 28, _, _, _, _, _⟩) (v := ?_) rfl (by kernel_rfl) (by kernel_rfl) (by kernel_rfl) (fun _ _ _ h => h) (Or.inl ⟨by rfl, ?_⟩) (by assumption) ?_
        rotate_left
        · (intro w hSw; (try dsimp only at hSw); go_simp; (try (with_reducible rfl)))
        try simp only [Act.put, List.setIfInBounds_toArray, List.set_cons_zero, List.set_cons_succ]
        refine wpAnyH_take (i := 9) (oi := ⟨some 29, _, _, _, _, _⟩) (v := ?_) rfl (by kernel_rfl) (by kernel_rfl) (by kernel_rfl) (fun _ _ _ h => h) (Or.inl ⟨by rfl, ?_⟩) (by assumption) ?_
        rotate_left
        · (intro w hSw; (try dsimp only at hSw); go_simp; (try (with_reducible rfl)))
        try simp only [Act.put, List.setIfInBounds_toArray, List.set_cons_zero, List.set_cons_succ]
        refine wpAnyH_take (i := 10) (oi := ⟨some 30, _, _, _, _, _⟩) (v := ?_) rfl (by kernel_rfl) (by kernel_rfl) (by kernel_rfl) (fun _ _ _ h => h) (Or.inl ⟨by rfl, ?_⟩) (by assumption) ?_
        rotate_left
        · (intro w hSw; (try dsimp only at hSw); go_simp; (try (with_reducible rfl)))
        try simp only [Act.put, List.setIfInBounds_toArray, List.set_cons_zero, List.set_cons_succ]
        refine wpAnyH_take (i := 11) (oi := ⟨some 31, _, _, _, _, _⟩) (v := ?_) rfl (by kernel_rfl) (by kernel_rfl) (by kernel_rfl) (fun _ _ _ h => h) (Or.inl ⟨by rfl, ?_⟩) (by assumption) ?_
        rotate_left
        · (intro w hSw; (try dsimp only at hSw); go_simp; (try (with_reducible rfl)))
        try simp only [Act.put, List.setIfInBounds_toArray, List.set_cons_zero, List.set_cons_succ]
        refine wpAnyH_ready (rs := [12]) (by kernel_rfl) (by simp) ?_
        refine AllReadyH.cons (o := ⟨some 32, _, _, _, _, _⟩) rfl (fun K hK => ?_) AllReadyH.nil
        go_simp
        (with_reducible refine HH.out.mono ?_); rintro e w4 ⟨rfl, rfl⟩
        go_wp2_with fail
        refine hK.out _ _ (by (try dsimp only); simp [*]) (fun hHeld => ?_)
        clear hK K
        try simp only [List.setIfInBounds_toArray, List.set_cons_zero, List.set_cons_succ]
        refine wpAnyH_take (i := 13) (oi := ⟨some 33, _, _, _, _, _⟩) (v := ?_) rfl (by kernel_rfl) (by kernel_rfl) (by kernel_rfl) (fun _ _ _ h => h) (Or.inl ⟨by rfl, ?_⟩) (by assumption) ?_
        rotate_left
        · (intro w hSw; (try dsimp only at hSw); go_simp; (try (with_reducible rfl)))
        try simp only [Act.put, List.setIfInBounds_toArray, List.set_cons_zero, List.set_cons_succ]
        refine wpAnyH_take (i := 14) (oi := ⟨some 34, _, _, _, _, _⟩) (v := ?_) rfl (by kernel_rfl) (by kernel_rfl) (by kernel_rfl) (fun _ _ _ h => h) (Or.inl ⟨by rfl, ?_⟩) (by assumption) ?_
        rotate_left
        · (intro w hSw; (try dsimp only at hSw); go_simp; (try (with_reducible rfl)))
        try simp only [Act.put, List.setIfInBounds_toArray, List.set_cons_zero, List.set_cons_succ]
        refine wpAnyH_take (i := 15) (oi := ⟨some 8, _, _, _, _, _⟩) (v := ?_) rfl (by kernel_rfl) (by kernel_rfl) (by kernel_rfl) (fun _ _ _ h => h) (Or.inl ⟨by rfl, ?_⟩) (by assumption) ?_
        rotate_left
        · (intro w hSw; (try dsimp only at hSw); go_simp; (try (with_reducible rfl)))
        try simp only [Act.put, List.setIfInBounds_toArray, List.set_cons_zero, List.set_cons_succ]
        refine wpAnyH_done (by kernel_rfl) ?_ _
        go_wp2_with fail
        go_ret
        exact ⟨ret_bool (by rw [← HAV2.out]; rfl), HB5.out.drew⟩
      · have e1 : (nv == -1) = false := by rw [beq_eq_false_iff_ne]; exact h2
        have e2 : (nv == 0) = false := by rw [beq_eq_false_iff_ne]; exact h3
        have HV : Hid ((nv == -1 || (nv == 0 && bb)) = false) := by show _ = _; rw [e1, e2]; rfl
        rw [HV.out] at HAV2
        go_wp2_with fail
        refine wp_region_held_drew (S := (fun w' : World => w'.cell? ⟨w3.heap.size, 0, none⟩ = some (.int .i64 nv) ∧ w'.cell? ⟨w.heap.size, 1, none⟩ = some (.slice (some ⟨g6, o6, none⟩) (gameN l n k).P ck) ∧ w'.cell? ⟨g6, o6 + p, none⟩ = some (.int .u64 (nm : Int)) ∧ w'.cell? ⟨w.heap.size + 1 + 1, 0, none⟩ = some (.int .i64 (r : Int)))) (by kernel_rfl) (by (try dsimp only); simp [*]) (fun hHeld => ?_)
        change wpAnyH _ _ _ _ _ _ #[false, false, false, false, false, false, false, false, false, false, false, false, false, false, false, false] _ _
        refine wpAnyH_take (i := 0) (oi := ⟨some 20, _, _, _, _, _⟩) (v := ?_) rfl (by kernel_rfl) (by kernel_rfl) (by kernel_rfl) (fun _ _ _ h => h) (Or.inl ⟨by rfl, ?_⟩) (by assumption) ?_
        rotate_left
        · (intro w hSw; (try dsimp only at hSw); go_simp; (try (with_reducible rfl)))
        try simp only [Act.put, List.setIfInBounds_toArray, List.set_cons_zero, List.set_cons_succ]
        refine wpAnyH_take (i := 1) (oi := ⟨some 21, _, _, _, _, _⟩) (v := ?_) rfl (by kernel_rfl) (by kernel_rfl) (by kernel_rfl) (fun _ _ _ h => h) (Or.inl ⟨by rfl, ?_⟩) (by assumption) ?_
        rotate_left
        · (intro w hSw; (try dsimp only at hSw); go_simp; (try (with_reducible rfl)))
        try simp only [Act.put, List.setIfInBounds_toArray, List.set_cons_zero, List.set_cons_succ]
        refine wpAnyH_take (i := 2) (oi := ⟨some 22, _, _, _, _, _⟩) (v := ?_) rfl (by kernel_rfl) (by kernel_rfl) (by kernel_rfl) (fun _ _ _ h => h) (Or.inl ⟨by rfl, ?_⟩) (by assumption) ?_
        rotate_left
        · (intro w hSw; (try dsimp only at hSw); go_simp; (try (with_reducible rfl)))
        try simp only [Act.put, List.setIfInBounds_toArray, List.set_cons_zero, List.set_cons_succ]
        refine wpAnyH_take (i := 3) (oi := ⟨some 23, _, _, _, _, _⟩) (v := ?_) rfl (by kernel_rfl) (by kernel_rfl) (by kernel_rfl) (fun _ _ _ h => h) (Or.inl ⟨by rfl, ?_⟩) (by assumption) ?_
        rotate_left
        · (intro w hSw; (try dsimp only at hSw); go_simp; (try (with_reducible rfl)))
        try simp only [Act.put, List.setIfInBounds_toArray, List.set_cons_zero, List.set_cons_succ]
        refine wpAnyH_take (i := 4) (oi := ⟨some 24, _, _, _, _, _⟩) (v := ?_) rfl (by kernel_rfl) (by kernel_rfl) (by kernel_rfl) (fun _ _ _ h => h) (Or.inl ⟨by rfl, ?_⟩) (by assumption) ?_
        rotate_left
        · (intro w hSw; (try dsimp only at hSw); go_simp; (try (with_reducible rfl)))
        try simp only [Act.put, List.setIfInBounds_toArray, List.set_cons_zero, List.set_cons_succ]
        refine wpAnyH_take (i := 5) (oi := ⟨some 25, _, _, _, _, _⟩) (v := ?_) rfl (by kernel_rfl) (by kernel_rfl) (by kernel_rfl) (fun _ _ _ h => h) (Or.inl ⟨by rfl, ?_⟩) (by assumption) ?_
        rotate_left
        · (intro w hSw; (try dsimp only at hSw); go_simp; (try (with_reducible rfl)))
        try simp only [Act.put, List.setIfInBounds_toArray, List.set_cons_zero, List.set_cons_succ]
        refine wpAnyH_take (i := 6) (oi := ⟨some 26, _, _, _, _, _⟩) (v := undef) rfl (by kernel_rfl) (by kernel_rfl) (by kernel_rfl) (fun _ _ _ h => h) (Or.inr ⟨by rfl, rfl⟩) (by assumption) ?_
        try simp only [Act.put, List.setIfInBounds_toArray, List.set_cons_zero, List.set_cons_succ]
        refine wpAnyH_take (i := 7) (oi := ⟨some 27, _, _, _, _, _⟩) (v := undef) rfl (by kernel_rfl) (by kernel_rfl) (by kernel_rfl) (fun _ _ _ h => h) (Or.inr ⟨by rfl, rfl⟩) (by assumption) ?_
        try simp only [Act.put, List.setIfInBounds_toArray, List.set_cons_zero, List.set_cons_succ]
        refine wpAnyH_take (i := 8) (oi := ⟨some 28, _, _, _, _, _⟩) (v := undef) rfl (by kernel_rfl) (by kernel_rfl) (by kernel_rfl) (fun _ _ _ h => h) (Or.inr ⟨by rfl, rfl⟩) (by assumption) ?_
        try simp only [Act.put, List.setIfInBounds_toArray, List.set_cons_zero, List.set_cons_succ]
        refine wpAnyH_take (i := 9) (oi := ⟨some 29, _, _, _, _, _⟩) (v := undef) rfl (by kernel_rfl) (by kernel_rfl) (by kernel_rfl) (fun _ _ _ h => h) (Or.inr ⟨by rfl, rfl⟩) (by assumption) ?_
        try simp only [Act.put, List.setIfInBounds_toArray, List.set_cons_zero, List.set_cons_succ]
        refine wpAnyH_take (i := 10) (oi := ⟨some 30, _, _, _, _, _⟩) (v := undef) rfl (by kernel_rfl) (by kernel_rfl) (by kernel_rfl) (fun _ _ _ h => h) (Or.inr ⟨by rfl, rfl⟩) (by assumption) ?_
        try simp only [Act.put, List.setIfInBounds_toArray, List.set_cons_zero, List.set_cons_succ]
        refine wpAnyH_take (i := 11) (oi := ⟨some 31, _, _, _, _, _⟩) (v := undef) rfl (by kernel_rfl) (by kernel_rfl) (by kernel_rfl) (fun _ _ _ h => h) (Or.inr ⟨by rfl, rfl⟩) (by assumption) ?_
        try simp only [Act.put, List.setIfInBounds_toArray, List.set_cons_zero, List.set_cons_succ]
        refine wpAnyH_take (i := 12) (oi := ⟨some 32, _, _, _, _, _⟩) (v := undef) rfl (by kernel_rfl) (by kernel_rfl) (by kernel_rfl) (fun _ _ _ h => h) (Or.inr ⟨by rfl, rfl⟩) (by assumption) ?_
        try simp only [Act.put, List.setIfInBounds_toArray, List.set_cons_zero, List.set_cons_succ]
        refine wpAnyH_take (i := 13) (oi := ⟨some 33, _, _, _, _, _⟩) (v := ?_) rfl (by kernel_rfl) (by kernel_rfl) (by kernel_rfl) (fun _ _ _ h => h) (Or.inl ⟨by rfl, ?_⟩) (by assumption) ?_
        rotate_left
        · (intro w hSw; (try dsimp only at hSw); go_simp; (try (with_reducible rfl)))
        try simp only [Act.put, List.setIfInBounds_toArray, List.set_cons_zero, List.set_cons_succ]
        refine wpAnyH_take (i := 14) (oi := ⟨some 34, _, _, _, _, _⟩) (v := ?_) rfl (by kernel_rfl) (by kernel_rfl) (by kernel_rfl) (fun _ _ _ h => h) (Or.inl ⟨by rfl, ?_⟩) (by assumption) ?_
        rotate_left
        · (intro w hSw; (try dsimp only at hSw); go_simp; (try (with_reducible rfl)))
        try simp only [Act.put, List.setIfInBounds_toArray, List.set_cons_zero, List.set_cons_succ]
        refine wpAnyH_take (i := 15) (oi := ⟨some 8, _, _, _, _, _⟩) (v := ?_) rfl (by kernel_rfl) (by kernel_rfl) (by kernel_rfl) (fun _ _ _ h => h) (Or.inl ⟨by rfl, ?_⟩) (by assumption) ?_
        rotate_left
        · (intro w hSw; (try dsimp only at hSw); go_simp; (try (with_reducible rfl)))
        try simp only [Act.put, List.setIfInBounds_toArray, List.set_cons_zero, List.set_cons_succ]
        refine wpAnyH_done (by kernel_rfl) ?_ _
        go_wp2_with fail
        go_ret
        exact ⟨ret_bool HAV2.out, HB5.out.drew⟩
  · have HAV2 : Hid ((mvN l n k p).any (fun q => (gameN l n k).tk q.toNat r || !((ballL l n r).any fun x => escB T nv q.toNat x.toNat)) = av) := by have h_ := HAV.out; rw [if_neg h1] at h_; exact h_
    clear HAV
    clear hHA x1 x3 x7 x9
    have HXX := Lib.hid (And.intro x2 x8)
    go_wp2_with fail
    refine (HND.out w5).mono ?_
    rintro e w6 ⟨A9, c9, rfl, o9, b9⟩
    have HFL : Hid (∀ y ∈ ballL l n r, 0 ≤ y ∧ y < (n : Int)) := fun y hy => by obtain ⟨j, hj, _, rfl⟩ := mem_nw.1 hy; omega
    have hbl : (ballL l n r).length ≤ 8 := by have := nw_len (ballB l r) n; show (nw (ballB l r) n).length ≤ 8; omega
    have HMV : Hid (∀ y ∈ mvN l n k p, 0 ≤ y ∧ y < ((gameN l n k).P : Int)) := fun y hy => by obtain ⟨j, hj, _, rfl⟩ := mem_nw.1 hy; omega
    have HO9 := Lib.hid o9
    generalize ballL l n r = bl at *
    have d7 : Below w5.heap.size w5 (w6.alloc (.cells #[.slice A9 bl.length c9] 32)) := b9.alloc b9.size _
    have HF7 := Lib.hid (Blk.new w6 32 #[.slice A9 bl.length c9])
    have HI7 : Hid (Ints (w6.alloc (.cells #[.slice A9 bl.length c9] 32)) (.slice A9 bl.length c9) bl) := (show Ints w6 _ _ from Reads.of_own HO9.out).below ((Below.refl _ _).alloc (Nat.le_refl _) _)
    have HB7 := Lib.hid (btrans HB5.out d7)
    have y2 := nearv.cell_keep HXX.out.1 d7
    have y8 := nearv.cell_keep HXX.out.2 d7
    have HCF := Lib.hid (containsFuncI_any (.slice A4 (mvN l n k p).length c4) (mvN l n k p) 134 #[.pointer (some ⟨w.heap.size, 0, none⟩), .pointer (some ⟨w.heap.size + 1 + 1, 0, none⟩), .pointer (some ⟨w6.heap.size, 0, none⟩), .pointer (some ⟨w.heap.size + 1, 0, none⟩), .pointer (some ⟨w3.heap.size, 0, none⟩)] (fun q => (gameN l n k).tk q.toNat r || !(bl.any fun x => escB T nv q.toNat x.toNat)) _ (HM5.out.below d7) (by omega)
      { enter := fun _ _ => by kernel_rfl
        call := fun W hW y hy => by
          obtain ⟨y1, y2⟩ := HMV.out y hy
          obtain ⟨q, rfl⟩ : ∃ q : Nat, y = (q : Int) := ⟨y.toNat, by omega⟩
          rw [Int.toNat_natCast]
          exact prvClo_any (gameN l n k).P n q r w.heap.size (w.heap.size + 1 + 1) w6.heap.size (w.heap.size + 1) w3.heap.size nv (gameN l n k).tk T (.slice none 0 0) _ (.slice none 0 0) _ _ bl ut W (HK5.out.below (btrans d7 hW)) (HT5.out.below (btrans d7 hW)) (HI7.out.below hW) hbl HFL.out ((HGC5.out.below (btrans d7 hW) HGC5.out.lt).cell 1) ((HGR5.out.below (btrans d7 hW) HGR5.out.lt).cell 0) ((HF7.out.below hW HF7.out.lt).cell 0) ((HGT5.out.below (btrans d7 hW) HGT5.out.lt).cell 0) ((HGN5.out.below (btrans d7 hW) HGN5.out.lt).cell 0) (by omega) hr hn })
    rw [HAV2.out] at HCF
    have hmf : ∀ (fn : Fn) (first cap : Array Value) (w : World), (Instr.makeFunc fn first cap).run Try.prog w = .ok (.func fn first cap) w := fun _ _ _ _ => rfl
    clear x0 x2 x4 x5 x6 x8 o9 b9 d7
    go_wp2_with fail
    refine HCF.out.mono ?_
    rintro e w8 ⟨rfl, b8⟩
    go_wp2_with fail
    go_ret
    exact ⟨rfl, btrans HB7.out b8⟩
end Go.Proofs.Ytjcnngnahijceaa.cpfs
