/- Capture proofs: the contract of the model's l4Worst. -/
import Derived.Handy
import Derived.Test.YtjcnngnahijceaaSets
import Derived.Test.YtjcnngnahijceaaC03
import Derived.Deep.DeepCutAuto
import Derived.Deep.RegionHeld3
import Derived.Deep.QuietTactic
import Derived.Test.YtjcnngnahijceaaC04
namespace Go.Proofs.Ytjcnngnahijceaa.cpfs
open Go.RowKit P2 words edges ints good fns sets rets
set_option linter.unusedVariables false

set_option maxHeartbeats 1000000 in
set_option maxRecDepth 100000 in
theorem l4Worst_any (u : Value) (xs : List Int) (w : World) (hu : Ints w u xs) (hxl : xs.length ≤ 1048576) :
    Calls Try.prog 85 #[u] w fun e w' => ∃ m : Int, (0 ≤ m ↔ ∀ y ∈ xs, 0 ≤ y) ∧ e = .returned (.int .i64 m) ∧ w = w' := by
  obtain ⟨A2, c2, rfl, hc2⟩ := hu.form
  have HC2 := Lib.hid hc2
  have HX0 : Hid (∀ j y, j < 0 → xs[j]? = some y → 0 ≤ y) := fun j y hj => by omega
  clear hu hc2
  go_enter Try.func85, Try.ntmps85
  go_wp2_with fail
  go_loopg [3, 4] xs.length (fun g mv iv wr => ∃ (k : Nat) (m : Int), k + g = xs.length ∧ mv = .int .i64 m ∧ iv = .int .i64 (k : Int) ∧ Hid (0 ≤ m) ∧ Hid (∀ j y, j < k → xs[j]? = some y → 0 ≤ y) ∧ wr = w)
  case atStart => exact ⟨0, 0, by omega, rfl, rfl, Int.le_refl 0, HX0, rfl⟩
  case round =>
    clear HX0
    obtain ⟨k, m, hkg, rfl, rfl, hm, hno, rfl⟩ := hrel
    cases gk with
    | zero =>
      obtain rfl : k = xs.length := by omega
      have HV : Hid (0 ≤ m ↔ ∀ y ∈ xs, 0 ≤ y) := ⟨fun _ y hy => by
        obtain ⟨j, hj⟩ := List.getElem?_of_mem hy
        exact hno.out j y (List.getElem?_eq_some_iff.1 hj).1 hj, fun _ => hm.out⟩
      go_wp2_with fail
      go_ret
      exact ⟨m, HV.out, rfl, rfl⟩
    | succ g2 =>
      have hlt : k < xs.length := by omega
      have hlt' : (k : Int) < (xs.length : Int) := by omega
      obtain ⟨y, hy⟩ : ∃ y, xs[k]? = some y := ⟨_, List.getElem?_eq_getElem hlt⟩
      obtain ⟨g5, o5, rfl, c5⟩ := HC2.out k _ hy
      by_cases hn : y < 0
      · have HV : Hid ((0 : Int) ≤ -1 ↔ ∀ y ∈ xs, 0 ≤ y) := ⟨fun h => by omega, fun h => by have := h y (List.mem_of_getElem? hy); omega⟩
        clear hy
        go_wp2_with fail
        go_ret
        exact ⟨-1, HV.out, rfl, rfl⟩
      · have HN : Hid (∀ j z, j < k + 1 → xs[j]? = some z → 0 ≤ z) := fun j z hj hz => by
          by_cases e : j = k
          · subst e; rw [hy] at hz; cases hz; omega
          · exact hno.out j z (by omega) hz
        have HM : Hid (0 ≤ max m y) := by have := hm.out; show 0 ≤ max m y; omega
        have HMX := Lib.hid (minmax.l1Most_any m y wr)
        clear hy
        go_wp2_with fail
        refine HMX.out.mono ?_
        rintro e w' ⟨rfl, rfl⟩
        go_wp2_with fail
        go_roundg g2
        case measure => omega
        case rel => exact ⟨k + 1, max m y, by omega, rfl, by go_num, HM, HN, rfl⟩
end Go.Proofs.Ytjcnngnahijceaa.cpfs

/- The contract of the model's l4Make. -/
namespace Go.Proofs.Ytjcnngnahijceaa.lists
open Go.RowKit P2 words edges ints good adjs fns sets rets apps gridr grid trip covs bitsI times mids
set_option linter.unusedVariables false

/-- the places of the lists to which the cops of place p can move -/
def plcN (l : List Ed) (n k p : Nat) : List Nat := (List.range (listsN n k 0).length).filter ((gameN l n k).mv p)
theorem plcN_cast (l : List Ed) (n k p : Nat) : castL (plcN l n k p) = mvN l n k p := rfl
theorem plcN_moves {l : List Ed} {n k p : Nat} (h : p < (listsN n k 0).length) : movesN (ballB l) n (cfg n k p) = (plcN l n k p).map (cfg n k) := by
  rw [moves_map, cfg_len h]; rfl
theorem plcN_lt {l : List Ed} {n k p q : Nat} (h : q ∈ plcN l n k p) : q < (listsN n k 0).length := List.mem_range.1 (List.mem_filter.1 h).1
theorem plcN_len (l : List Ed) (n k p : Nat) : (plcN l n k p).length ≤ (listsN n k 0).length := by
  have := List.length_filter_le ((gameN l n k).mv p) (List.range (listsN n k 0).length); rw [List.length_range] at this; exact this
def mvK4 (l : List Ed) (n k p : Nat) : List (List Int) := (List.range p).map (mvN l n k)
theorem mvK4_len (l : List Ed) (n k p : Nat) : (mvK4 l n k p).length = p := by simp [mvK4]
theorem mvK4_succ (l : List Ed) (n k p : Nat) : mvK4 l n k (p + 1) = mvK4 l n k p ++ [mvN l n k p] := by simp [mvK4, List.range_succ]
def balK (l : List Ed) (n x : Nat) : List (List Int) := (List.range x).map (ballL l n)
theorem balK_len (l : List Ed) (n x : Nat) : (balK l n x).length = x := by simp [balK]
theorem balK_succ (l : List Ed) (n x : Nat) : balK l n (x + 1) = balK l n x ++ [ballL l n x] := by simp [balK, List.range_succ]
def CutK (w wx : World) (l : List Ed) (n k p : Nat) (lv nv : Value) : Prop :=
  ∃ A c us b, lv = .slice A (plcN l n k p).length c ∧ nv = .slice (some ⟨b, 0, none⟩) 0 0 ∧ OwnG wx w.heap.size (.slice A (plcN l n k p).length c) us (rowsN ((plcN l n k p).map (cfg n k))) ∧ wx.ownsRow w.heap.size 3 1 nv 0 [] ∧ (∀ (i : Nat) u d, us[i]? = some u → u.ownBlock = some d → d ≠ b) ∧ Below w.heap.size w wx
theorem OwnG.kept_r {w w' : World} {B B' m : Nat} {v v' : Value} {us ys : List Value} {rows : List (List Int)} (h : OwnG w B v us rows) (h' : w.ownsRow B' 3 1 v' m ys) (hne : ∀ (i : Nat) u b, us[i]? = some u → u.ownBlock = some b → v'.ownBlock ≠ some b) (hg : w.grownBy w' v'.ownBlock) : OwnG w' B v us rows :=
  ⟨own_kept h.1 h' (by decide) hg, fun i u r hu hr => (h.2.1 i u r hu hr).kept hg (by
    cases hv : u.ownBlock with
    | none => exact .inl rfl
    | some b => exact .inr (fun e => hne i u b hu hv e.symm)), h.2.2⟩
theorem OwnG.lt {w : World} {B : Nat} {v : Value} {us : List Value} {rows : List (List Int)} (h : OwnG w B v us rows) : ∀ (i : Nat) u d, us[i]? = some u → u.ownBlock = some d → B ≤ d ∧ d < w.heap.size := fun i u d hu hd => by
  obtain ⟨r, hr⟩ : ∃ r, rows[i]? = some r := ⟨_, List.getElem?_eq_getElem (by have := (List.getElem?_eq_some_iff.1 hu).1; have := h.len; omega)⟩
  exact (h.2.1 i u r hu hr).lt d hd
theorem OwnG.kept_g {w w' : World} {B B' m : Nat} {v v' : Value} {us ys : List Value} {rows : List (List Int)} (h : OwnG w B v us rows) (h' : w.ownsRow B' 32 1 v' m ys) (hv : ∀ b, v.ownBlock = some b → v'.ownBlock ≠ some b) (hg : w.grownBy w' v'.ownBlock) : OwnG w' B v us rows :=
  ⟨h.1.kept hg (by
    cases hb : v.ownBlock with
    | none => exact .inl rfl
    | some b => exact .inr (fun e => hv b hb e.symm)), fun i u r hu hr => own_kept (h.2.1 i u r hu hr) h' (by decide) hg, h.2.2⟩
theorem fin_game {w w3 : World} {R B3 B4 B5 : Nat} {fv mv bv : Value} {uf um ub : List Value} {rf rm rb : List (List Int)} (hr : Blk w3 R 90 #[.slice none 0 0, .slice none 0 0, .slice none 0 0])
    (hf : OwnG w3 B3 fv uf rf) (hm : OwnG w3 B4 mv um rm) (hb : OwnG w3 B5 bv ub rb) (hB : Below w.heap.size w w3) (hR : w.heap.size ≤ R) :
    ∃ w5, w5 = (((w3.setCell ⟨R, 0, none⟩ fv).setCell ⟨R, 1, none⟩ mv).setCell ⟨R, 2, none⟩ bv) ∧ Blk w5 R 90 #[fv, mv, bv] ∧ OwnG w5 B3 fv uf rf ∧ OwnG w5 B4 mv um rm ∧ OwnG w5 B5 bv ub rb ∧ Below w.heap.size w w5 := by
  have k5 : w3.grownBy (((w3.setCell ⟨R, 0, none⟩ fv).setCell ⟨R, 1, none⟩ mv).setCell ⟨R, 2, none⟩ bv) (some R) := gset (gset (gset1 w3 R 0 _) 1 _) 2 _
  have h1 := ((hr.set_ 0 fv).set_ 1 mv).set_ 2 bv
  exact ⟨_, rfl, by simpa using h1, OwnG.kept_c hf hr (by decide) (by decide) k5, OwnG.kept_c hm hr (by decide) (by decide) k5, OwnG.kept_c hb hr (by decide) (by decide) k5, ((hB.setCell hR _).setCell hR _).setCell hR _⟩
set_option maxHeartbeats 16000000 in
set_option maxRecDepth 100000 in
theorem l4Make_any (n k : Nat) (v : Value) (l : List Ed) (w : World) (h : Edges w v l) (hl : l.length ≤ 1048576) (hg : P2.Good (n : Int) l) (hn : n ≤ 8) (hk : k ≤ 3) :
    Calls Try.prog 82 #[.agg #[.int .i64 (n : Int), v], .int .i64 (k : Int)] w fun e w' => ∃ fv mv bv uf um ub, e = .returned (.agg #[fv, mv, bv]) ∧ HS w' l n k fv mv bv uf um ub ∧ Below w.heap.size w w' := by
  obtain ⟨i0, hi, hz0, hz1, hz2⟩ := info_parts infoInt
  obtain ⟨i1, hi1, hy0, hy1, hy2⟩ := info_parts infoRow
  obtain ⟨A, c, rfl, -⟩ := h.form
  have H := Lib.hid h
  have HGD := Lib.hid hg
  have hP := game_small hn hk
  have b0 : Below w.heap.size w ((w.alloc (.cells #[.int .i64 (n : Int), .slice A l.length c] 28)).alloc (.cells #[.slice none 0 0, .slice none 0 0, .slice none 0 0] 90)) := ((Below.refl _ _).alloc (Nat.le_refl _) _).alloc (by simp) _
  have g0 := (Blk.new w 28 #[.int .i64 (n : Int), .slice A l.length c]).alloc (.cells #[.slice none 0 0, .slice none 0 0, .slice none 0 0] 90)
  have r0 := Blk.new (w.alloc (.cells #[.int .i64 (n : Int), .slice A l.length c] 28)) 90 #[.slice none 0 0, .slice none 0 0, .slice none 0 0]
  rw [World.size_alloc] at r0
  obtain ⟨p0, p1, -, -⟩ := g0.two
  have HCF := Lib.hid (fun (W : World) => l4Configs_any n k hn hk W)
  clear h hg
  go_enter Try.func82, Try.ntmps82
  go_wp2_with fail
  refine (HCF.out _).mono ?_
  rintro e w1 ⟨A1, c1, uf, rfl, o1, b1⟩
  have HRL := Lib.hid (rowsN_len (listsN n k 0))
  rw [HRL.out] at o1 ⊢
  have HE1 := Lib.hid (btrans b0 b1)
  have HG1 := Lib.hid (g0.below b1 g0.lt)
  have HR1 := Lib.hid (r0.below b1 r0.lt)
  have HLO := Lib.hid (OwnG.base o1 (show w.heap.size ≤ _ from b0.size))
  have hlt1 := HR1.out.lt
  have HBO := Lib.hid (Blk.new w1 90 #[.slice A1 (listsN n k 0).length c1, .slice none 0 0, .slice none 0 0])
  have HB2 := Lib.hid ((Below.refl w1.heap.size w1).alloc (Nat.le_refl _) (.cells #[.slice A1 (listsN n k 0).length c1, .slice none 0 0, .slice none 0 0] 90))
  clear b0 g0 r0 b1 o1 p0 p1 HCF
  go_wp2_with fail
  go_loopg [6] (listsN n k 0).length (fun g iv wr => ∃ (p : Nat) (mv : Value) (um : List Value), p + g = (listsN n k 0).length ∧ iv = .int .i64 (p : Int) ∧ Blk wr w1.heap.size 90 #[.slice A1 (listsN n k 0).length c1, mv, .slice none 0 0] ∧ OwnG wr w1.heap.size mv um (mvK4 l n k p) ∧ Below w1.heap.size w1 wr)
  case atStart => exact ⟨0, _, [], by omega, rfl, HBO.out, OwnG.nil _ _, HB2.out⟩
  case round =>
    clear HBO HB2
    obtain ⟨p, mv, um, hpg, rfl, hbO, hM, hB⟩ := hrel
    obtain ⟨wo, hwo⟩ : ∃ wo, wo = wr := ⟨_, rfl⟩
    subst hwo
    obtain ⟨x0, x1, x2⟩ := blk3 hbO
    obtain ⟨Am, cm, rfl⟩ := own_form hM.1
    rw [mvK4_len] at *
    cases gk with
    | zero =>
      obtain rfl : p = (listsN n k 0).length := by omega
      have hGB := HG1.out.below hB HG1.out.lt
      obtain ⟨y0, y1, -, -⟩ := hGB.two
      have HBO := Lib.hid hbO
      have HM := Lib.hid hM
      have HB := Lib.hid hB
      have HGB := Lib.hid hGB
      have hszo := hB.size
      have HMLT : Hid (∀ b, (Value.slice Am (listsN n k 0).length cm).ownBlock = some b → b < wo.heap.size) := fun b hb => (hM.1.lt b hb).2
      clear hbO hM hB hGB
      go_wp2_with fail
      go_loopg [10] n (fun g iv wr9 => ∃ (x : Nat) (bv : Value) (ub : List Value), x + g = n ∧ iv = .int .i64 (x : Int) ∧ Blk wr9 w1.heap.size 90 #[.slice A1 (listsN n k 0).length c1, .slice Am (listsN n k 0).length cm, bv] ∧ OwnG wr9 wo.heap.size bv ub (balK l n x) ∧ OwnG wr9 w1.heap.size (.slice Am (listsN n k 0).length cm) um (mvK4 l n k (listsN n k 0).length) ∧ Blk wr9 w.heap.size 28 #[.int .i64 (n : Int), .slice A l.length c] ∧ Below w1.heap.size w1 wr9 ∧ wo.heap.size ≤ wr9.heap.size)
      case atStart => exact ⟨0, _, [], by omega, rfl, HBO.out, OwnG.nil _ _, HM.out, HGB.out, HB.out, Nat.le_refl _⟩
      case round =>
        obtain ⟨x, bv, ub, hxg, rfl, hbO, hV, hM, hGB, hB, hwo⟩ := hrel
        clear HBO HM HB HGB y0 y1
        obtain ⟨x0, x1, x2⟩ := blk3 hbO
        obtain ⟨y0, y1, -, -⟩ := hGB.two
        obtain ⟨Ab, cb, rfl⟩ := own_form hV.1
        rw [balK_len] at *
        have HBO := Lib.hid hbO
        have HV := Lib.hid hV
        have HM := Lib.hid hM
        have HGB := Lib.hid hGB
        have HB := Lib.hid hB
        have hlb := balK_len l n x
        have hlb2 : (balK l n x).length ≤ 8 := by omega
        cases gk with
        | zero =>
          obtain rfl : x = n := by omega
          clear hbO hV hM hGB hB hlb
          have hr3 := HR1.out.below HB.out HR1.out.lt
          obtain ⟨r0, r1, r2⟩ := blk3 hr3
          have z0 := hr3.frozen 0
          have z1 := hr3.frozen 1
          have z2 := hr3.frozen 2
          have FN := Lib.hid (fin_game hr3 (HLO.out.below HB.out) HM.out HV.out (btrans HE1.out HB.out) (Nat.le_succ _))
          clear hr3
          go_wp2_with fail
          obtain ⟨w5, e5, hb5, hf5, hm5, hv5, hB5⟩ := FN.out
          rw [← e5]
          obtain ⟨q0, q1, q2⟩ := blk3 hb5
          refine bodyPost_ret (v := .agg #[.slice A1 (listsN x k 0).length c1, .slice Am (listsN x k 0).length cm, .slice Ab x cb]) (by simp [results, Try.results82, go_sem, q0, q1, q2]) rfl ⟨_, _, _, uf, um, ub, rfl, ⟨gridl.readsG_of_own hf5, gridl.readsG_of_own hm5, gridl.readsG_of_own hv5⟩, hB5⟩
        | succ g3 =>
          have hxn : x < n := by omega
          have hxn' : (x : Int) < (n : Int) := by omega
          have HBA := Lib.hid (fun (W : World) (hb : Below wr.heap.size wr W) => l2Ball_own n x _ l W (H.out.below (btrans HE1.out (btrans hB hb))) hl hn hxn)
          have HSK := Lib.hid (fun (W : World) (hb : Below wr.heap.size wr W) => (⟨nearv.cell_keep y0 hb, nearv.cell_keep y1 hb⟩ : W.cell? ⟨w.heap.size, 0, none⟩ = some (.int .i64 (n : Int)) ∧ W.cell? ⟨w.heap.size, 1, none⟩ = some (.slice A l.length c)))
          have HBS := Lib.hid (balK_succ l n x)
          have hll : (castL (ballN l n x)).length = (ballL l n x).length := by rw [ballN_cast]; rfl
          have HCB : Hid (castL (ballN l n x) = ballL l n x) := ballN_cast l n x
          rw [HCB.out] at HBA
          have n1 := (HBO.out.alloc (.cells #[.slice Ab 0 0] 32)).cell 2
          clear hbO hV hM hGB hB hlb hll
          generalize ballL l n x = bl at *
          go_wp2_with fail
          refine wp_region_held_drew (S := (fun w' : World => w'.cell? ⟨w.heap.size, 0, none⟩ = some (.int .i64 (n : Int)) ∧ w'.cell? ⟨w.heap.size, 1, none⟩ = some (.slice A l.length c))) (by kernel_rfl) (by (try dsimp only); simp [*]) (fun hHeld => ?_)
          change wpAnyH _ _ _ _ _ _ #[false, false, false, false, false, false, false, false, false] _ _
          refine wpAnyH_take (i := 0) (oi := ⟨some 59, _, _, _, _, _⟩) (v := ?_) rfl (by kernel_rfl) (by kernel_rfl) (by kernel_rfl) (fun _ _ _ h => h) (Or.inl ⟨by rfl, ?_⟩) (by assumption) ?_
          rotate_left
          · (intro w hSw; (try dsimp only at hSw); go_simp; (try (with_reducible rfl)))
          try simp only [Act.put, List.setIfInBounds_toArray, List.set_cons_zero, List.set_cons_succ]
          refine wpAnyH_take (i := 2) (oi := ⟨some 61, _, _, _, _, _⟩) (v := ?_) rfl (by kernel_rfl) (by kernel_rfl) (by kernel_rfl) (fun _ _ _ h => h) (Or.inl ⟨by rfl, ?_⟩) (by assumption) ?_
          rotate_left
          · (intro w hSw; (try dsimp only at hSw); go_simp; (try (with_reducible rfl)))
          try simp only [Act.put, List.setIfInBounds_toArray, List.set_cons_zero, List.set_cons_succ]
          refine wpAnyH_take (i := 3) (oi := ⟨some 62, _, _, _, _, _⟩) (v := ?_) rfl (by kernel_rfl) (by kernel_rfl) (by kernel_rfl) (fun _ _ _ h => h) (Or.inl ⟨by rfl, ?_⟩) (by assumption) ?_
          rotate_left
          · (intro w hSw; (try dsimp only at hSw); go_simp; (try (with_reducible rfl)))
          try simp only [Act.put, List.setIfInBounds_toArray, List.set_cons_zero, List.set_cons_succ]
          refine wpAnyH_ready (rs := [1, 4]) (by kernel_rfl) (by simp) ?_
          refine AllReadyH.cons (o := ⟨some 60, _, _, _, _, _⟩) rfl (fun K hK => ?_) (AllReadyH.cons (o := ⟨some 63, _, _, _, _, _⟩) rfl (fun K hK => ?_) AllReadyH.nil)
          focus
            go_simp
            refine hK.out _ _ (HSK.out _ (Below.refl _ _).drew) (fun hHeld => ?_)
            clear hK K
            refine wpAnyH_ready (rs := [4]) (by kernel_rfl) (by simp) ?_
            refine AllReadyH.cons (o := ⟨some 63, _, _, _, _, _⟩) rfl (fun K hK => ?_) AllReadyH.nil
            go_simp
            go_at_call 127
            refine (HBA.out wr.drew (Below.refl _ _).drew).mono ?_
            rintro e w3 ⟨A3, c3, rfl, o3, b3⟩
            have d3 : Below wr.heap.size wr w3 := btrans (Below.refl _ _).drew b3
            go_wp2_with fail
            refine hK.out _ _ (HSK.out _ d3) (fun hHeld => ?_)
            clear hK K
            refine wpAnyH_ready (rs := [5]) (by kernel_rfl) (by simp) ?_
            refine AllReadyH.cons rfl (fun K hK => ?_) AllReadyH.nil
            go_simp
            refine hK.out _ _ (HSK.out _ (d3.alloc d3.size _)) (fun hHeld => ?_)
            clear hK K
            try simp only [List.setIfInBounds_toArray, List.set_cons_zero, List.set_cons_succ]
          rotate_left
          focus
            go_simp
            go_at_call 127
            refine (HBA.out wr.drew (Below.refl _ _).drew).mono ?_
            rintro e w3 ⟨A3, c3, rfl, o3, b3⟩
            have d3 : Below wr.heap.size wr w3 := btrans (Below.refl _ _).drew b3
            have hb3 := HBO.out.below d3 HBO.out.lt
            obtain ⟨k0, k1, k2⟩ := blk3 hb3
            have na := (hb3.alloc (.cells #[.slice A3 bl.length c3] 32)).cell 2
            go_wp2_with fail
            refine hK.out _ _ (HSK.out _ d3) (fun hHeld => ?_)
            clear hK K
            refine wpAnyH_ready (rs := [1, 5]) (by kernel_rfl) (by simp) ?_
            refine AllReadyH.cons (o := ⟨some 60, _, _, _, _, _⟩) rfl (fun K hK => ?_) (AllReadyH.cons (o := ⟨some 64, _, _, _, _, _⟩) rfl (fun K hK => ?_) AllReadyH.nil)
            focus
              go_simp
              refine hK.out _ _ (HSK.out _ d3) (fun hHeld => ?_)
              clear hK K
              refine wpAnyH_ready (rs := [5]) (by kernel_rfl) (by simp) ?_
              refine AllReadyH.cons rfl (fun K hK => ?_) AllReadyH.nil
              go_simp
              refine hK.out _ _ (HSK.out _ (d3.alloc d3.size _)) (fun hHeld => ?_)
              clear hK K
              try simp only [List.setIfInBounds_toArray, List.set_cons_zero, List.set_cons_succ]
            rotate_left
            focus
              go_simp
              refine hK.out _ _ (HSK.out _ (d3.alloc d3.size _)) (fun hHeld => ?_)
              clear hK K
              refine wpAnyH_ready (rs := [1]) (by kernel_rfl) (by simp) ?_
              refine AllReadyH.cons rfl (fun K hK => ?_) AllReadyH.nil
              go_simp
              refine hK.out _ _ (HSK.out _ (d3.alloc d3.size _)) (fun hHeld => ?_)
              clear hK K
              try simp only [List.setIfInBounds_toArray, List.set_cons_zero, List.set_cons_succ]
          all_goals
            have FG := Lib.hid ((HV.out.below d3).1.alloc (.cells #[.slice A3 bl.length c3] 32))
            have hs3 := d3.size
            have hb4 := HBO.out.below d3 HBO.out.lt
            have hg4 := HGB.out.below d3 HGB.out.lt
            refine wpAnyH_ready (rs := [6]) (by kernel_rfl) (by simp) ?_
            refine AllReadyH.cons rfl (fun K hK => ?_) AllReadyH.nil
            (refine step_append_lies _ rfl (.tmp 60) (.tmp 64) 42 rfl wo.heap.size 32 i1 (.slice none 0 0) 1 24 Try.underlying42 hi1 hy0 hy1 hy2 rfl (by decide) (.slice Ab x cb) (balK l n x).length ub rfl FG.out ⟨w3.heap.size, 0, none⟩ 1 1 [.slice A3 bl.length c3] rfl rfl (cell_one_new _ _ _) (fun x hx => by simp at hx; subst hx; rfl) (by decide) (by unfold maxLen; omega) (by omega) (by simp; omega) (w3.heap.size + 1) (by simp) ?_; intro g8 cap8 w8 hown8 hgrow8 lies8 lt8; have hb8 := (hb4.alloc (.cells #[.slice A3 bl.length c3] 32)).grown hgrow8 (fun e => own_ne FG.out (hb4.alloc (.cells #[.slice A3 bl.length c3] 32)) (by decide) e.symm); obtain ⟨j0, j1, j2⟩ := blk3 hb8; have z2 := hb8.frozen 2; have hg8 := (hg4.alloc (.cells #[.slice A3 bl.length c3] 32)).grown hgrow8 (fun e => own_ne FG.out (hg4.alloc (.cells #[.slice A3 bl.length c3] 32)) (by decide) e.symm); have hg9 := hg8.far (p := ⟨w1.heap.size, 2, none⟩) (by show w.heap.size ≠ w1.heap.size; omega) (.slice (some ⟨g8, 0, none⟩) ((balK l n x).length + 1) cap8))
            refine hK.out _ _ (⟨hg8.two.1, hg8.two.2.1⟩) (fun hHeld => ?_)
            clear hK K
            try simp only [Act.put, List.setIfInBounds_toArray, List.set_cons_zero, List.set_cons_succ]
            refine wpAnyH_take (i := 7) (oi := ⟨some 66, _, _, _, _, _⟩) (v := ?_) rfl (by kernel_rfl) (by kernel_rfl) (by kernel_rfl) (fun _ _ _ h => h) (Or.inl ⟨by rfl, ?_⟩) (by assumption) ?_
            rotate_left
            · (intro w hSw; (try dsimp only at hSw); go_simp; (try (with_reducible rfl)))
            try simp only [Act.put, List.setIfInBounds_toArray, List.set_cons_zero, List.set_cons_succ]
            refine wpAnyH_ready (rs := [8]) (by kernel_rfl) (by simp) ?_
            refine AllReadyH.cons rfl (fun K hK => ?_) AllReadyH.nil
            go_simp
            refine hK.out _ _ (⟨hg9.two.1, hg9.two.2.1⟩) (fun hHeld => ?_)
            clear hK K
            refine wpAnyH_done (by kernel_rfl) ?_ _
            have hV8 := OwnG.push (m := 1) (r := bl) HV.out d3 hwo o3 hown8 rfl hgrow8
            rw [← HBS.out] at hV8
            have k9 := gset1 w8 w1.heap.size 2 (.slice (some ⟨g8, 0, none⟩) ((balK l n x).length + 1) cap8)
            have HV9 := Lib.hid (OwnG.kept_c hV8 hb8 (by decide) (by decide) k9)
            have HM9 := Lib.hid (OwnG.kept_c (OwnG.kept_g ((HM.out.below d3).below ((Below.refl _ _).alloc (Nat.le_refl _) (.cells #[.slice A3 bl.length c3] 32))) FG.out (fun b hb e => by have h1 := HMLT.out b hb; have h2 := (FG.out.lt b e).1; omega) hgrow8) hb8 (by decide) (by decide) k9)
            have HBO9 : Hid (Blk (w8.setCell ⟨w1.heap.size, 2, none⟩ (.slice (some ⟨g8, 0, none⟩) ((balK l n x).length + 1) cap8)) w1.heap.size 90 #[.slice A1 (listsN n k 0).length c1, .slice Am (listsN n k 0).length cm, .slice (some ⟨g8, 0, none⟩) ((balK l n x).length + 1) cap8]) := by
              have h_ := hb8.set_ 2 (.slice (some ⟨g8, 0, none⟩) ((balK l n x).length + 1) cap8)
              show Blk _ _ _ _
              simpa using h_
            have HB9 := Lib.hid ((((btrans HB.out d3).alloc (by omega) (.cells #[.slice A3 bl.length c3] 32)).grown hgrow8 (by simp; omega) (fun j e => by have := (FG.out.lt j e).1; omega)).setCell (p := ⟨w1.heap.size, 2, none⟩) (Nat.le_refl _) (.slice (some ⟨g8, 0, none⟩) ((balK l n x).length + 1) cap8))
            have HG9 := Lib.hid hg9
            have hs9 : wo.heap.size ≤ (w8.setCell ⟨w1.heap.size, 2, none⟩ (.slice (some ⟨g8, 0, none⟩) ((balK l n x).length + 1) cap8)).heap.size := by
              have h_ := hgrow8.size
              simp [World.setCell] at h_ ⊢; omega
            clear hown8 hgrow8 lies8 hb8 j0 j1 j2 z2 hHeld hV8 hg8 hg9 hb4 hg4 k9 o3 b3 d3
            go_wp2_with fail
            go_roundg g3
            case measure => omega
            case rel => exact ⟨x + 1, _, _, by omega, by go_num, HBO9.out, HV9.out, HM9.out, HG9.out, HB9.out, hs9⟩
    | succ gg =>
      have hlt : p < (listsN n k 0).length := by omega
      have hlt' : (p : Int) < ((listsN n k 0).length : Int) := by omega
      obtain ⟨uu, gl, ol, hu, hAx, c0, hru⟩ := (gridl.readsG_of_own (HLO.out.below hB)).row (rowsN_at (cfg_at (n := n) (k := k) (p := p) hlt))
      subst hAx
      obtain ⟨Ar, cr, rfl, -⟩ := hru.form
      have hgb := HG1.out.below hB HG1.out.lt
      obtain ⟨y0, y1, -, -⟩ := hgb.two
      have HMV := Lib.hid (fun (W : World) (hb : Below wo.heap.size wo W) => l4Moves_any n _ _ l (cfg n k p) W (H.out.below (btrans HE1.out (btrans hB hb))) hl HGD.out hn (hru.below hb) (by rw [cfg_len hlt]; exact hk) (cfg_lt hlt))
      rw [plcN_moves hlt] at HMV
      have HSK := Lib.hid (fun (W : World) (hb : Below wo.heap.size wo W) => (⟨nearv.cell_keep y0 hb, nearv.cell_keep y1 hb, nearv.cell_keep x0 hb, nearv.cell_keep c0 hb⟩ : W.cell? ⟨w.heap.size, 0, none⟩ = some (.int .i64 (n : Int)) ∧ W.cell? ⟨w.heap.size, 1, none⟩ = some (.slice A l.length c) ∧ W.cell? ⟨w1.heap.size, 0, none⟩ = some (.slice (some ⟨gl, ol, none⟩) (listsN n k 0).length c1) ∧ W.cell? ⟨gl, ol + p, none⟩ = some (.slice Ar (castL (cfg n k p)).length cr)))
      have HPL : Hid ((rowsN ((plcN l n k p).map (cfg n k))).length = (plcN l n k p).length) := by show _ = _; rw [rowsN_len, List.length_map]
      have HBO := Lib.hid hbO
      have HM := Lib.hid hM
      have HB := Lib.hid hB
      clear hbO hM hB hru hu hgb
      go_wp2_with fail
      go_cut [7, 8] (fun a b wx => CutK wo wx l n k p a b)
      case first =>
        go_region_held3 (fun w' => w'.cell? ⟨w.heap.size, 0, none⟩ = some (.int .i64 (n : Int)) ∧ w'.cell? ⟨w.heap.size, 1, none⟩ = some (.slice A l.length c) ∧ w'.cell? ⟨w1.heap.size, 0, none⟩ = some (.slice (some ⟨gl, ol, none⟩) (listsN n k 0).length c1) ∧ w'.cell? ⟨gl, ol + p, none⟩ = some (.slice Ar (castL (cfg n k p)).length cr)) (first | go_keep | exact HSK.out _ d3 | exact HSK.out _ (d3.alloc d3.size _)) (first
          | (go_at_call 125; have D2 : Below wo.heap.size wo wo.drew := (Below.refl _ _).drew; (with_reducible refine (HMV.out wo.drew D2).mono ?_); rintro e w3 ⟨A3, c3, u3, rfl, r3, b3⟩; have d3 : Below wo.heap.size wo w3 := btrans D2 b3; have r4 := r3.base D2.size)
          | (go_at_call 125; have D2 : Below wo.heap.size wo (wo.alloc (.cells #[] 3)).drew := ((Below.refl _ _).alloc (Nat.le_refl _) _).drew; (with_reducible refine (HMV.out (wo.alloc (.cells #[] 3)).drew D2).mono ?_); rintro e w3 ⟨A3, c3, u3, rfl, r3, b3⟩; have d3 : Below wo.heap.size wo w3 := btrans D2 b3; have r4 := r3.base D2.size; have n3 : w3.ownsRow wo.heap.size 3 1 (.slice (some ⟨wo.heap.size, 0, none⟩) 0 0) 0 [] := own_below (own_new0 wo.drew 3 1) b3))
        all_goals (go_wp2_with fail; go_meet)
        all_goals (rw [HPL.out] at r4 ⊢)
        · exact ⟨_, _, _, _, rfl, rfl, r4.below ((Below.refl _ _).alloc (Nat.le_refl _) _), own_base (own_new0 w3 3 1) d3.size, (fun i u d hu hd e => by have := (OwnG.lt r4 i u d hu hd).2; omega), d3.alloc d3.size _⟩
        · exact ⟨_, _, _, _, rfl, rfl, r4, n3, (fun i u d hu hd e => by
            have h1 := (OwnG.lt r3 i u d hu hd).1
            have h2 : (wo.alloc (.cells #[] 3)).drew.heap.size = wo.heap.size + 1 := by simp
            omega), d3⟩
      case rest =>
        obtain ⟨Al, cl, ul, bn, rfl, rfl, hl0, hn0, hne, hBc⟩ := hcut
        obtain ⟨wd, hwd⟩ : ∃ wd, wd = wc := ⟨_, rfl⟩
        subst hwd
        have hzd := hBc.size
        have hPle := plcN_len l n k p
        have HPT := Lib.hid (fun q (hq : q ∈ plcN l n k p) => plcN_lt hq)
        have HMV9 := Lib.hid (plcN_cast l n k p)
        have HLT := Lib.hid (fun i u d hu hd => (OwnG.lt hl0 i u d hu hd).2)
        have HNE := Lib.hid hne
        have HL0 := Lib.hid hl0
        have HN0 := Lib.hid hn0
        have HBC := Lib.hid hBc
        have HROW : Hid (∀ j q, (plcN l n k p)[j]? = some q → (rowsN ((plcN l n k p).map (cfg n k)))[j]? = some (castL (cfg n k q))) := fun j q hq => rowsN_at (by rw [List.getElem?_map, hq]; rfl)
        clear hl0 hn0 hne hBc x0 x1 x2 y0 y1 c0 HMV HSK
        generalize plcN l n k p = Q at *
        go_wp2_with fail
        go_loopg [8, 9] Q.length (fun g rv jv wr9 => ∃ (j : Nat) (rw9 : Value), rw9 = rv ∧ j + g = Q.length ∧ jv = .int .i64 (j : Int) ∧ wr9.ownsRow wo.heap.size 3 1 rw9 j (cellsI (castL (Q.take j))) ∧ OwnG wr9 wo.heap.size (.slice Al Q.length cl) ul (rowsN (Q.map (cfg n k))) ∧ Hid (∀ b, rw9.ownBlock = some b → b = bn ∨ wd.heap.size ≤ b) ∧ Below wo.heap.size wo wr9 ∧ wd.heap.size ≤ wr9.heap.size)
        case atStart => exact ⟨0, _, rfl, by omega, rfl, HN0.out, HL0.out, fun b hb => .inl (by simp [Value.ownBlock] at hb; exact hb.symm), HBC.out, Nat.le_refl _⟩
        case round =>
          clear HN0 HL0
          obtain ⟨j, rw9, rfl, hjg, rfl, hrow, hl9, hbk, hB9, hwd9⟩ := hrel
          obtain ⟨A9, c9, rfl⟩ := own_form hrow
          cases gk with
          | zero =>
            obtain rfl : j = Q.length := by omega
            have hMB := HM.out.below hB9
            have hbO9 := HBO.out.below hB9 HBO.out.lt
            obtain ⟨x0, x1, x2⟩ := blk3 hbO9
            rw [List.take_length] at hrow
            have HRW := Lib.hid hrow
            have HB9 := Lib.hid hB9
            have HBO9 := Lib.hid hbO9
            have HM9 := Lib.hid hMB
            have hszB := HB.out.size
            have hsz9 := hB9.size
            have hml : (mvK4 l n k p).length ≤ 300 := by rw [mvK4_len]; omega
            have HMS := Lib.hid (mvK4_succ l n k p)
            clear hrow hl9 hbk hB9 hMB hbO9
            go_wp2_with (at_builtin; refine wpList_append_own _ rfl (.tmp 48) (.tmp 50) 42 rfl w1.heap.size 32 i1 (.slice none 0 0) 1 24 Try.underlying42 hi1 hy0 hy1 hy2 rfl (by decide) _ _ _ rfl (HM9.out.1.alloc _) ⟨wr.heap.size, 0, none⟩ 1 1 [.slice A9 Q.length c9] rfl rfl (cell_one_new _ _ _) (fun x hx => by simp at hx; subst hx; rfl) (by unfold maxLen; omega) (by omega) (by simp; omega) ?_; intro v6 w6 hown6 hgrow6 _; obtain ⟨A6, c6, rfl⟩ := own_form hown6; have hb6 := (HBO9.out.alloc (.cells #[.slice A9 Q.length c9] 32)).grown hgrow6 (fun e => own_ne (HM9.out.1.alloc (.cells #[.slice A9 Q.length c9] 32)) (HBO9.out.alloc (.cells #[.slice A9 Q.length c9] 32)) (by decide) e.symm); obtain ⟨e0, e1, e2⟩ := blk3 hb6; have z1 := hb6.frozen 1)
            have hG6 := OwnG.push (r := castL Q) HM.out HB9.out hszB (by rw [castL_len]; exact HRW.out) hown6 rfl hgrow6
            rw [HMV9.out, ← HMS.out] at hG6
            have HG7 := Lib.hid (OwnG.kept_c hG6 hb6 (by decide) (by decide) (gset1 w6 w1.heap.size 1 (.slice A6 ((mvK4 l n k p).length + 1) c6)))
            have HBO7 : Hid (Blk (w6.setCell ⟨w1.heap.size, 1, none⟩ (.slice A6 ((mvK4 l n k p).length + 1) c6)) w1.heap.size 90 #[.slice (some ⟨gl, ol, none⟩) (listsN n k 0).length c1, .slice A6 ((mvK4 l n k p).length + 1) c6, .slice none 0 0]) := by
              have h_ := hb6.set_ 1 (.slice A6 ((mvK4 l n k p).length + 1) c6)
              show Blk _ _ _ _
              simpa using h_
            have HB7 := Lib.hid ((((btrans HB.out HB9.out).alloc (by omega) (.cells #[.slice A9 Q.length c9] 32)).grown hgrow6 (by simp; omega) (fun j e => (HM9.out.1.lt j e).1)).setCell (p := ⟨w1.heap.size, 1, none⟩) (Nat.le_refl _) (.slice A6 ((mvK4 l n k p).length + 1) c6))
            clear hown6 hgrow6 hb6 e0 e1 e2 z1 hG6
            go_roundg gg
            case measure => omega
            case rel => exact ⟨p + 1, _, _, by omega, by go_num, HBO7.out, HG7.out, HB7.out⟩
          | succ g3 =>
            have hjl : j < Q.length := by omega
            have hjl' : (j : Int) < (Q.length : Int) := by omega
            obtain ⟨q, hq⟩ : ∃ q, Q[j]? = some q := ⟨_, List.getElem?_eq_getElem hjl⟩
            have hqP := HPT.out q (List.mem_of_getElem? hq)
            obtain ⟨u9, g9, o9, hu9, hAx, c9', hru9⟩ := (gridl.readsG_of_own hl9).row (HROW.out j q hq)
            subst hAx
            obtain ⟨Aq, cq, rfl, -⟩ := hru9.form
            have hbO9 := HBO.out.below hB9 HBO.out.lt
            obtain ⟨x0, x1, x2⟩ := blk3 hbO9
            have hLO9 := HLO.out.below (btrans HB.out hB9)
            have HAT := Lib.hid (fun (W : World) (hb : Below _ _ W) => l4At_any (.slice (some ⟨gl, ol, none⟩) (listsN n k 0).length c1) (.slice Aq (castL (cfg n k q)).length cq) uf (listsN n k 0) (cfg n k q) k q W (gridl.readsG_of_own (hLO9.below hb)) (hru9.below hb) (cfg_at hqP) (lists_lex n k 0) (fun L hL => (lists_mem k 0 L hL).1) hk (by omega))
            have HSK9 := Lib.hid (fun (W : World) (hb : Below _ _ W) => (⟨nearv.cell_keep x0 hb, nearv.cell_keep c9' hb⟩ : W.cell? ⟨w1.heap.size, 0, none⟩ = some (.slice (some ⟨gl, ol, none⟩) (listsN n k 0).length c1) ∧ W.cell? ⟨g9, o9 + j, none⟩ = some (.slice Aq (castL (cfg n k q)).length cq)))
            have hne9 : Hid (∀ (i : Nat) u b, ul[i]? = some u → u.ownBlock = some b → (Value.slice A9 j c9).ownBlock ≠ some b) := fun i u b hu hb e => by
              rcases hbk.out b e with h1 | h1
              · exact HNE.out i u b hu hb h1
              · have := HLT.out i u b hu hb; omega
            have HTK : Hid (cellsI (castL (Q.take j)) ++ [.int .i64 (q : Int)] = cellsI (castL (Q.take (j + 1)))) := by
              show _ = _
              rw [List.take_add_one, hq]; simp [cellsI, castL]
            have HBO9 := Lib.hid hbO9
            have HCG : Hid (∀ W, OwnG W wo.heap.size (.slice (some ⟨g9, o9, none⟩) Q.length cl) ul (rowsN (Q.map (cfg n k))) → W.cell? ⟨g9, o9 + j, none⟩ = some (.slice Aq (castL (cfg n k q)).length cq)) := fun W hW => by
              obtain ⟨u8, g8, o8, hu8, e8, c8, -⟩ := (gridl.readsG_of_own hW).row (HROW.out j q hq)
              obtain ⟨rfl, rfl⟩ : g9 = g8 ∧ o9 = o8 := by simpa using e8
              rw [hu9] at hu8
              cases hu8
              exact c8
            have HRW := Lib.hid hrow
            have HL9 := Lib.hid hl9
            have HBK := Lib.hid hbk.out
            have HB9 := Lib.hid hB9
            have hs9 := hB9.size
            clear hrow hl9 hbk hB9 hLO9 hu9 hru9 hbO9 hq
            go_wp2_with fail
            have hcl9 : (cellsI (castL (Q.take j))).length ≤ 300 := by rw [cellsI_len, castL_len, List.length_take]; omega
            go_region_held3 (fun w' => w'.cell? ⟨w1.heap.size, 0, none⟩ = some (.slice (some ⟨gl, ol, none⟩) (listsN n k 0).length c1) ∧ w'.cell? ⟨g9, o9 + j, none⟩ = some (.slice Aq (castL (cfg n k q)).length cq)) (first | go_keep | exact s7 | exact HSK9.out _ d5 | exact HSK9.out _ (d5.alloc d5.size _)) (first
              | (go_at_call 126; have D2 : Below wr.heap.size wr wr.drew := (Below.refl _ _).drew; (with_reducible refine (HAT.out wr.drew D2).mono ?_); rintro e w5 ⟨rfl, b5⟩; have d5 : Below wr.heap.size wr w5 := btrans D2 b5; have hr5 := own_below HRW.out d5)
              | (refine step_append_lies _ rfl (.tmp 37) (.tmp 45) 32 rfl wo.heap.size 3 i0 (.int .i64 0) 1 8 Try.underlying32 hi hz0 hz1 hz2 rfl (by decide) (.slice A9 j c9) j (cellsI (castL (Q.take j))) rfl (hr5.alloc _) ⟨w5.heap.size, 0, none⟩ 1 1 [.int .i64 (q : Int)] rfl rfl (cell_one_new _ _ _) (fun x hx => by simp at hx; subst hx; rfl) (by decide) (by unfold maxLen; omega) (by omega) (by have := d5.size; simp; omega) (w5.heap.size + 1) (by simp) ?_; intro g7 cap7 w7 hown7 hgrow7 lies7 lt7; have hl7 := OwnG.kept_r ((HL9.out.below d5).below ((Below.refl _ _).alloc (Nat.le_refl _) (.cells #[.int .i64 (q : Int)] 3))) (hr5.alloc (.cells #[.int .i64 (q : Int)] 3)) hne9.out hgrow7; have d7 := ((btrans HB9.out d5).alloc (by have := d5.size; omega) (.cells #[.int .i64 (q : Int)] 3)).grown hgrow7 (by have := d5.size; simp; omega) (fun jj e => (hr5.lt jj e).1); have hb7 := (HBO9.out.below d5 (Nat.lt_of_lt_of_le HBO9.out.lt (Nat.le_refl _))); have s7 : w7.cell? ⟨w1.heap.size, 0, none⟩ = some (.slice (some ⟨gl, ol, none⟩) (listsN n k 0).length c1) ∧ w7.cell? ⟨g9, o9 + j, none⟩ = some (.slice Aq (castL (cfg n k q)).length cq) := ⟨(blk3 (HBO.out.below d7 HBO.out.lt)).1, HCG.out w7 hl7⟩))
            have HR7 : Hid (w7.ownsRow wo.heap.size 3 1 (.slice (some ⟨g7, 0, none⟩) (j + 1) cap7) (j + 1) (cellsI (castL (Q.take (j + 1))))) := by
              show World.ownsRow _ _ _ _ _ _ _
              rw [← HTK.out]; exact hown7
            have HK7 : Hid (∀ b, (Value.slice (some ⟨g7, 0, none⟩) (j + 1) cap7).ownBlock = some b → b = bn ∨ wd.heap.size ≤ b) := fun b hb => by
              have hb2 : b = g7 := by simp [Value.ownBlock] at hb; exact hb.symm
              subst hb2
              rcases lies7 with h1 | h1
              · exact HBK.out b h1
              · right; have := d5.size; omega
            have hs7 : wd.heap.size ≤ w7.heap.size := by
              have h_ := hgrow7.size
              have h2 := d5.size
              rw [World.size_alloc] at h_
              omega
            clear hown7 hgrow7 lies7 lt7 hb7 s7 b5
            go_wp2_with fail
            go_roundg g3
            case measure => omega
            case rel => exact ⟨j + 1, _, rfl, by omega, by go_num, HR7.out, hl7, HK7, d7, hs7⟩
end Go.Proofs.Ytjcnngnahijceaa.lists

/- Capture proofs: the contract of the model's IsCaptureProof. -/
namespace Go.Proofs.Ytjcnngnahijceaa.cpfs
open Go.RowKit P2 words edges ints good adjs fns sets rets covs bitsI bags gridr mids grid reps apps times lists balls cops
set_option linter.unusedVariables false

def CapN (n : Nat) (l : List Ed) (k : Nat) (tb : List (List Int)) : Prop :=
  TbP (gameN l n k).P n tb ∧ (∀ p, p < (gameN l n k).P → ∀ r, r < n → PrvP (gameN l n k) (tbF tb) l p r) ∧ ∃ p, p < (gameN l n k).P ∧ ∀ r, r < n → 0 ≤ tbF tb p r
def CapP (s : Int) (l : List Ed) (k : Int) (tb : List (List Int)) : Prop := FieldP s l k ∧ CapN s.toNat l k.toNat tb
theorem tb_at {tb : List (List Int)} {p r : Nat} {q : List Int} {y : Int} (hq : tb[p]? = some q) (hy : q[r]? = some y) : tbF tb p r = y := by
  unfold tbF
  rw [show tb.getD p [] = q from by rw [List.getD_eq_getElem?_getD, hq]; rfl, List.getD_eq_getElem?_getD, hy]; rfl
set_option maxHeartbeats 4000000 in
set_option maxRecDepth 100000 in
theorem specCpf_any (s ki : Int) (v : Value) (A2 : Option Addr) (c2 : Nat) (us : List Value) (tb : List (List Int)) (l : List Ed) (w : World) (h : Edges w v l) (hl : l.length ≤ 1048576) (ht : ReadsG w (.slice A2 tb.length c2) us tb) (htl : tb.length ≤ 1048576) (htr : ∀ r ∈ tb, r.length ≤ 1048576) (h64 : ∀ p r, tbF tb p r ≤ 9223372036854775807) (hs1 : -9223372036854775808 ≤ s) (hs2 : s ≤ 9223372036854775807) :
    Calls Try.prog 30 #[.agg #[.int .i64 s, v], .int .i64 ki, .slice A2 tb.length c2] w fun e w' => e = .returned (.tuple #[.bool (okG (CapP s l ki tb)), .bool (okG (FieldP s l ki))]) ∧ Below w.heap.size w w' := by
  obtain ⟨A, c, rfl, -⟩ := h.form
  have H := Lib.hid h
  have HT := Lib.hid ht
  have b0 : Below w.heap.size w (w.alloc (.cells #[.int .i64 s, .slice A l.length c] 28)) := (Below.refl _ _).alloc (Nat.le_refl _) _
  have g0 := Blk.new w 28 #[.int .i64 s, .slice A l.length c]
  obtain ⟨p0, p1, -, -⟩ := g0.two
  have HFI := Lib.hid (l4Field_any s ki _ l _ (h.below b0) hl hs1 hs2)
  have HB0 := Lib.hid b0
  have HG0 := Lib.hid g0
  by_cases hf : FieldP s l ki
  · rw [okG_yes hf] at HFI
    have HV2 := Lib.hid (okG_yes hf)
    have h8 := hf.1.2.1
    obtain ⟨n, rfl⟩ : ∃ n : Nat, s = (n : Int) := ⟨s.toNat, by have := hf.2.1; omega⟩
    obtain ⟨k, rfl⟩ : ∃ k : Nat, ki = (k : Int) := ⟨ki.toNat, by have := hf.2.2.1; omega⟩
    have hn : n ≤ 8 := by omega
    have hk : k ≤ 3 := by have := hf.2.2.2; omega
    have hP : (gameN l n k).P ≤ 200 := game_small hn hk
    have HV1 : Hid (okG (CapP (n : Int) l (k : Int) tb) = okG (CapN n l k tb)) := by
      show _ = _
      by_cases hc : CapN n l k tb
      · rw [okG_yes hc]; exact okG_yes ⟨hf, by rw [Int.toNat_natCast, Int.toNat_natCast]; exact hc⟩
      · rw [okG_no hc]; exact okG_no fun h => hc (by have := h.2; rwa [Int.toNat_natCast, Int.toNat_natCast] at this)
    have HMK := Lib.hid (fun (W : World) (hW : Below w.heap.size w W) => l4Make_any n k (.slice A l.length c) l W (H.out.below hW) hl hf.1 hn hk)
    clear hf h ht b0 g0
    go_enter Try.func30, Try.ntmps30
    go_wp2_with fail
    refine HFI.out.mono ?_
    rintro e w1 ⟨rfl, b1⟩
    have HE1 := Lib.hid (btrans HB0.out b1)
    have HG1 := Lib.hid (HG0.out.below b1 HG0.out.lt)
    have HM1 := Lib.hid (HMK.out w1 HE1.out)
    clear p0 p1 b1 HFI HB0 HG0 HMK
    obtain ⟨p0, p1, -, -⟩ := HG1.out.two
    go_wp2_with fail
    refine HM1.out.mono ?_
    rintro e w2 ⟨fv, mv, bv, uf, um, ub, rfl, hhs, b2⟩
    have HE2 := Lib.hid (btrans HE1.out b2)
    obtain ⟨Af, cf, rfl, -⟩ := hhs.cfgs.1
    obtain ⟨Am, cm, rfl, -⟩ := hhs.moves.1
    obtain ⟨Ab, cb, rfl, -⟩ := hhs.balls.1
    have HHS := Lib.hid hhs
    have HTB := Lib.hid (fun (W : World) (hW : Below w2.heap.size w2 W) => l4Table_any n k _ _ _ (.slice A2 tb.length c2) uf um ub us tb l W (hhs.below hW) (HT.out.below (btrans HE2.out hW)) htl htr hP hn)
    generalize hLf : (rowsN (listsN n k 0)).length = Lf at *
    generalize hLm : (mvG l n k).length = Lm at *
    generalize hLb : (ballG l n).length = Lb at *
    clear hLf hLm hLb
    have hb3 : Below w2.heap.size w2 (w2.alloc (.cells #[.slice Af Lf cf, .slice Am Lm cm, .slice Ab Lb cb] 90)) := (Below.refl _ _).alloc (Nat.le_refl _) _
    have HB3 := Lib.hid hb3
    have HK3 := Lib.hid (Blk.new w2 90 #[.slice Af Lf cf, .slice Am Lm cm, .slice Ab Lb cb])
    have HT3 := Lib.hid (HTB.out _ hb3)
    obtain ⟨x0, x1, x2⟩ := blk3 HK3.out
    clear p0 p1 b2 hhs HM1 HG1 hb3
    go_wp2_with fail
    refine HT3.out.mono ?_
    rintro e w4 ⟨rfl, b4⟩
    have HE4 := Lib.hid (btrans (HE2.out.alloc HE2.out.size (.cells #[.slice Af Lf cf, .slice Am Lm cm, .slice Ab Lb cb] 90)) b4)
    have HD4 := Lib.hid (btrans HB3.out b4)
    have HK4 := Lib.hid (HK3.out.below b4 HK3.out.lt)
    by_cases htp : TbP (gameN l n k).P n tb
    · have hgr := htp.grid
      have HPR := Lib.hid (fun (W : World) (hW : Below w2.heap.size w2 W) (p r : Nat) (hp : p < (gameN l n k).P) (hr : r < n) => l4Proves_any n k p r (tbF tb) _ _ _ (.slice A2 tb.length c2) uf um ub us l W (HHS.out.below hW) (by rw [hgr]; exact HT.out.below (btrans HE2.out hW)) hn hk hp hr hP (h64 p r))
      have HCN : Hid (CapN n l k tb ↔ (∀ p, p < (gameN l n k).P → ∀ r, r < n → PrvP (gameN l n k) (tbF tb) l p r) ∧ ∃ p, p < (gameN l n k).P ∧ ∀ r, r < n → 0 ≤ tbF tb p r) := ⟨fun h => h.2, fun h => ⟨htp, h⟩⟩
      have HLEN := Lib.hid htp.1
      have HRN := Lib.hid (fun q (hq : q ∈ tb) => (htp.2 q hq).1)
      have HT9 : Hid (okG (TbP (gameN l n k).P n tb) = true) := okG_yes htp
      have hlen : tb.length ≤ 200 := by have := htp.1; omega
      have HI0 : Hid (∀ p, p < 0 → ∀ r, r < n → PrvP (gameN l n k) (tbF tb) l p r) := fun p hp => by omega
      have HW0 : Hid (false = true ↔ ∃ p, p < 0 ∧ ∀ r, r < n → 0 ≤ tbF tb p r) := by
        refine ⟨fun h => (by cases h), ?_⟩
        rintro ⟨p, hp, _⟩
        omega
      rw [HT9.out]
      clear htp hgr x0 x1 x2 b4 HTB HT3 HB3 HK3
      obtain ⟨x0, x1, x2⟩ := blk3 HK4.out
      go_wp2_with fail
      clear x0 x1 x2
      go_loopg [9, 10] tb.length (fun g wv cv wr => ∃ (p : Nat) (wh : Bool), p + g = tb.length ∧ wv = .bool wh ∧ cv = .int .i64 (p : Int) ∧ Hid (∀ q, q < p → ∀ r, r < n → PrvP (gameN l n k) (tbF tb) l q r) ∧ Hid (wh = true ↔ ∃ q, q < p ∧ ∀ r, r < n → 0 ≤ tbF tb q r) ∧ Blk wr w2.heap.size 90 #[.slice Af Lf cf, .slice Am Lm cm, .slice Ab Lb cb] ∧ Below w2.heap.size w2 wr)
      case atStart => exact ⟨0, false, by omega, rfl, rfl, HI0, HW0, HK4.out, HD4.out⟩
      case round =>
        clear HI0 HW0 HK4 HD4 HE4
        obtain ⟨p, wh, hpg, rfl, rfl, hall, hwh, hbk, hby⟩ := hrel
        have HBK := Lib.hid hbk
        have HBY := Lib.hid hby
        cases gk with
        | zero =>
          obtain rfl : p = tb.length := by omega
          have HV3 : Hid (okG (CapN n l k tb) = wh) := by
            show _ = _
            cases wh with
            | true =>
              obtain ⟨q, hq, hh⟩ := hwh.out.1 rfl
              exact okG_yes (HCN.out.2 ⟨fun q hq r hr => hall.out q (by rw [HLEN.out]; exact hq) r hr, q, by rw [← HLEN.out]; exact hq, hh⟩)
            | false =>
              exact okG_no fun h => by
                obtain ⟨q, hq, hh⟩ := (HCN.out.1 h).2
                have := hwh.out.2 ⟨q, by rw [HLEN.out]; exact hq, hh⟩
                cases this
          have HEF := Lib.hid (btrans HE2.out hby)
          clear hbk hby
          go_wp2_with fail
          go_ret2
          rw [HV1.out, HV2.out, HV3.out]
          exact ⟨rfl, HEF.out⟩
        | succ g2 =>
          have hlt : p < tb.length := by omega
          have hlt' : (p : Int) < (tb.length : Int) := by omega
          have HPP : Hid (p < (gameN l n k).P) := by show p < _; rw [← HLEN.out]; exact hlt
          obtain ⟨r, hr⟩ : ∃ r, tb[p]? = some r := ⟨_, List.getElem?_eq_getElem hlt⟩
          obtain ⟨u, g5, o5, hu, rfl, q5, hri⟩ := HT.out.row hr
          obtain ⟨A7, c7, rfl, -⟩ := hri.form
          have HQ5 := Lib.hid q5
          have HRI := Lib.hid hri
          have HR := Lib.hid hr
          have HRN1 := Lib.hid (HRN.out r (List.mem_of_getElem? hr))
          have hrl : r.length ≤ 8 := by have := HRN1.out; omega
          have q6 := nearv.cell_keep q5 (btrans HE2.out hby)
          have HJ0 : Hid (∀ x, x < 0 → PrvP (gameN l n k) (tbF tb) l p x) := fun x hx => by omega
          clear hr hu q5 hri hbk hby
          go_wp2_with fail
          clear q6
          go_loopg [11] r.length (fun g xv wr => ∃ x : Nat, x + g = r.length ∧ xv = .int .i64 (x : Int) ∧ Hid (∀ y, y < x → PrvP (gameN l n k) (tbF tb) l p y) ∧ Blk wr w2.heap.size 90 #[.slice Af Lf cf, .slice Am Lm cm, .slice Ab Lb cb] ∧ Below w2.heap.size w2 wr)
          case atStart => exact ⟨0, by omega, rfl, HJ0, HBK.out, HBY.out⟩
          case round =>
            clear HJ0 HBK HBY
            obtain ⟨x, hxg, rfl, hno, hbk, hby⟩ := hrel
            have HBK := Lib.hid hbk
            have HBY := Lib.hid hby
            obtain ⟨x0, x1, x2⟩ := blk3 hbk
            have q6 := nearv.cell_keep HQ5.out (btrans HE2.out hby)
            cases gk with
            | zero =>
              obtain rfl : x = r.length := by omega
              have HALL : Hid (∀ q, q < p + 1 → ∀ r, r < n → PrvP (gameN l n k) (tbF tb) l q r) := fun q hq y hy => by
                by_cases e : q = p
                · subst e; exact hno.out y (by rw [HRN1.out]; exact hy)
                · exact hall.out q (by omega) y hy
              have HPW : Hid ((∀ y, y < n → 0 ≤ tbF tb p y) ↔ ∀ y ∈ r, 0 ≤ y) := by
                constructor
                · intro h y hy
                  obtain ⟨j, hj⟩ := List.getElem?_of_mem hy
                  have := h j (by rw [← HRN1.out]; exact (List.getElem?_eq_some_iff.1 hj).1)
                  rwa [tb_at HR.out hj] at this
                · intro h y hy
                  obtain ⟨z, hz⟩ : ∃ z, r[y]? = some z := ⟨_, List.getElem?_eq_getElem (by rw [HRN1.out]; exact hy)⟩
                  rw [tb_at HR.out hz]
                  exact h z (List.mem_of_getElem? hz)
              have HWO := Lib.hid (l4Worst_any (.slice A7 r.length c7) r wr (HRI.out.below (btrans HE2.out hby)) (by omega))
              clear hbk hby x0 x1 x2
              cases wh with
              | true =>
                have HWN : Hid (true = true ↔ ∃ q, q < p + 1 ∧ ∀ r, r < n → 0 ≤ tbF tb q r) := ⟨fun _ => by
                  obtain ⟨q, hq, hh⟩ := hwh.out.1 rfl
                  exact ⟨q, by omega, hh⟩, fun _ => rfl⟩
                go_wp2_with fail
                go_roundg g2
                case measure => omega
                case rel => exact ⟨p + 1, true, by omega, rfl, by go_num, HALL, (show (true = true ↔ _) from ⟨fun _ => HWN.out.1 trivial, fun _ => rfl⟩), HBK.out, HBY.out⟩
              | false =>
                go_wp2_with fail
                refine HWO.out.mono ?_
                rintro e w' ⟨m, hm, rfl, rfl⟩
                have HWN : Hid (decide (0 ≤ m) = true ↔ ∃ q, q < p + 1 ∧ ∀ r, r < n → 0 ≤ tbF tb q r) := by
                  show _ ↔ _
                  rw [decide_eq_true_iff, hm, ← HPW.out]
                  constructor
                  · intro h; exact ⟨p, by omega, h⟩
                  · rintro ⟨q, hq, hh⟩
                    by_cases e : q = p
                    · subst e; exact hh
                    · have := hwh.out.2 ⟨q, by omega, hh⟩; cases this
                clear hm
                go_wp2_with fail
                go_roundg g2
                case measure => omega
                case rel => exact ⟨p + 1, decide (0 ≤ m), by omega, rfl, by go_num, HALL, HWN, HBK.out, HBY.out⟩
            | succ g3 =>
              have hxl : x < r.length := by omega
              have hxl' : (x : Int) < (r.length : Int) := by omega
              have HXN : Hid (x < n) := by show x < n; rw [← HRN1.out]; exact hxl
              have HPX := Lib.hid (HPR.out wr hby p x HPP.out HXN.out)
              clear hbk hby
              by_cases hpv : PrvP (gameN l n k) (tbF tb) l p x
              · rw [okG_yes hpv] at HPX
                have HN : Hid (∀ y, y < x + 1 → PrvP (gameN l n k) (tbF tb) l p y) := fun y hy => by
                  by_cases e : y = x
                  · subst e; exact hpv
                  · exact hno.out y (by omega)
                clear hpv
                go_wp2_with fail
                refine HPX.out.mono ?_
                rintro e w6 ⟨rfl, b6⟩
                have HK6 := Lib.hid (HBK.out.below b6 HBK.out.lt)
                have HB6 := Lib.hid (btrans HBY.out b6)
                clear b6 x0 x1 x2 q6
                go_wp2_with fail
                go_roundg g3
                case measure => omega
                case rel => exact ⟨x + 1, by omega, by go_num, HN, HK6.out, HB6.out⟩
              · rw [okG_no hpv] at HPX
                have HV3 : Hid (okG (CapN n l k tb) = false) := okG_no fun h => hpv ((HCN.out.1 h).1 p HPP.out x HXN.out)
                clear hpv
                go_wp2_with fail
                refine HPX.out.mono ?_
                rintro e w6 ⟨rfl, b6⟩
                have HB6 := Lib.hid (btrans HE2.out (btrans HBY.out b6))
                clear b6 x0 x1 x2 q6
                go_wp2_with fail
                go_ret2
                rw [HV1.out, HV2.out, HV3.out]
                exact ⟨rfl, HB6.out⟩
    · have HV3 : Hid (okG (CapN n l k tb) = false) := okG_no fun h => htp h.1
      have HT9 : Hid (okG (TbP (gameN l n k).P n tb) = false) := okG_no htp
      rw [HT9.out]
      clear htp x0 x1 x2 b4 HTB HT3 HB3 HK3
      go_wp2_with fail
      go_ret2
      rw [HV1.out, HV2.out, HV3.out]
      exact ⟨rfl, HE4.out⟩
  · rw [okG_no hf] at HFI
    have HV1 := Lib.hid (okG_no (fun h : CapP s l ki tb => hf h.1))
    have HV2 := Lib.hid (okG_no hf)
    clear hf h ht b0 g0
    go_enter Try.func30, Try.ntmps30
    go_wp2_with fail
    refine HFI.out.mono ?_
    rintro e w1 ⟨rfl, b1⟩
    have HE1 := Lib.hid (btrans HB0.out b1)
    clear p0 p1 b1
    go_wp2_with fail
    go_ret2
    rw [HV1.out, HV2.out]
    exact ⟨rfl, HE1.out⟩
end Go.Proofs.Ytjcnngnahijceaa.cpfs
