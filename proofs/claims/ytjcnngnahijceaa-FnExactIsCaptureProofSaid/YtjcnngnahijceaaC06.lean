/- The contract of the program's huntIn. -/
import Derived.Handy
import Derived.Test.YtjcnngnahijceaaC01
import Derived.Test.YtjcnngnahijceaaCanI
import Derived.Deep.RegionHeld3
import Derived.StillTailTactics
namespace Go.Proofs.Ytjcnngnahijceaa.lists
open Go.RowKit P2 words edges ints good adjs fns sets rets apps gridr grid trip covs bitsI times mids filled cops
set_option linter.unusedVariables false

abbrev HT : TypeId := 97
/-- what there is behind the region that begins -/
def CutH (w1 wx : World) (l : List Ed) (n P : Nat) (lv : Value) (O : Nat) (cv mv : Value) (us : List Value) : Prop :=
  Blk wx O 97 #[cv, .slice none 0 0, mv, .slice none 0 0, lv] ∧ wx.ownsRow w1.heap.size 67 1 cv n (cellsU (clos l n)) ∧ OwnG wx w1.heap.size mv us (List.replicate P []) ∧ Below w1.heap.size w1 wx ∧ w1.heap.size ≤ O ∧ O < wx.heap.size ∧ (∃ Ac cc, cv = .slice Ac n cc) ∧ (∃ gm, mv = .slice (some ⟨gm, 0, none⟩) P P)
theorem CutH.new {w1 wz : World} {l : List Ed} {n P O : Nat} {lv cv mv : Value} {us : List Value} (hO : wz.heap.size = O) (ho : wz.ownsRow w1.heap.size 67 1 cv n (cellsU (clos l n))) (hm : OwnG wz w1.heap.size mv us (List.replicate P [])) (hB : Below w1.heap.size w1 wz)
    (hc : ∃ Ac cc, cv = .slice Ac n cc) (hv : ∃ gm, mv = .slice (some ⟨gm, 0, none⟩) P P) : CutH w1 (wz.alloc (.cells #[cv, .slice none 0 0, mv, .slice none 0 0, lv] 97)) l n P lv O cv mv us := by
  subst hO
  exact ⟨Blk.new wz _ _, ho.alloc _, hm.below ((Below.refl _ _).alloc (Nat.le_refl _) _), hB.alloc hB.size _, hB.size, by simp, hc, hv⟩
theorem CutH.two {w1 w3 : World} {l : List Ed} {n P c : Nat} {lv : Value} {A : Option Addr} (ho : w3.ownsRow w1.heap.size 67 1 (.slice A n c) n (cellsU (clos l n))) (hB : Below w1.heap.size w1 w3)
    (hm : ∀ W : World, OwnG (W.alloc (.cells (madeCells #[.slice none 0 0] P) 32)) W.heap.size (.slice (some ⟨W.heap.size, 0, none⟩) P P) (List.replicate P (.slice none 0 0)) (List.replicate P [])) :
    CutH w1 ((w3.alloc (.cells #[.slice A n c, .slice none 0 0, .slice (some ⟨w3.heap.size + 1, 0, none⟩) P P, .slice none 0 0, lv] 97)).alloc (.cells (madeCells #[.slice none 0 0] P) 32)) l n P lv w3.heap.size (.slice A n c) (.slice (some ⟨w3.heap.size + 1, 0, none⟩) P P) (List.replicate P (.slice none 0 0)) := by
  have h1 := hm (w3.alloc (.cells #[.slice A n c, .slice none 0 0, .slice (some ⟨w3.heap.size + 1, 0, none⟩) P P, .slice none 0 0, lv] 97))
  rw [World.size_alloc] at h1
  have h2 := hB.size
  exact ⟨(Blk.new w3 _ _).alloc _, (ho.alloc _).alloc _, h1.base (by omega), (hB.alloc hB.size _).alloc (by simp; omega) _, hB.size, by simp; omega, ⟨_, _, rfl⟩, ⟨_, rfl⟩⟩
theorem CutH.set {w1 wz : World} {l : List Ed} {n P O : Nat} {lv cv mv : Value} {us : List Value} (hb : Blk wz O 97 #[.slice none 0 0, .slice none 0 0, .slice none 0 0, .slice none 0 0, .slice none 0 0]) (ho : wz.ownsRow w1.heap.size 67 1 cv n (cellsU (clos l n))) (hm : OwnG wz w1.heap.size mv us (List.replicate P [])) (hB : Below w1.heap.size w1 wz) (hO : w1.heap.size ≤ O)
    (hc : ∃ Ac cc, cv = .slice Ac n cc) (hv : ∃ gm, mv = .slice (some ⟨gm, 0, none⟩) P P) : CutH w1 (((((wz.setCell ⟨O, 0, none⟩ cv).setCell ⟨O, 1, none⟩ (.slice none 0 0)).setCell ⟨O, 2, none⟩ mv).setCell ⟨O, 3, none⟩ (.slice none 0 0)).setCell ⟨O, 4, none⟩ lv) l n P lv O cv mv us := by
  have hk : wz.grownBy (((((wz.setCell ⟨O, 0, none⟩ cv).setCell ⟨O, 1, none⟩ (.slice none 0 0)).setCell ⟨O, 2, none⟩ mv).setCell ⟨O, 3, none⟩ (.slice none 0 0)).setCell ⟨O, 4, none⟩ lv) (some O) := gset (gset (gset (gset (gset1 wz O 0 _) 1 _) 2 _) 3 _) 4 _
  have h1 := ((((hb.set_ 0 cv).set_ 1 (.slice none 0 0)).set_ 2 mv).set_ 3 (.slice none 0 0)).set_ 4 lv
  refine ⟨?_, ho.kept hk (.inr (own_ne ho hb (by decide))), OwnG.kept_c hm hb (by decide) (by decide) hk, ((((hB.setCell hO _).setCell hO _).setCell hO _).setCell hO _).setCell hO _, hO, ?_, hc, hv⟩
  · simpa using h1
  · have := hb.lt; simp [World.setCell]; exact this
theorem own_set {w : World} {B B' n n' size c g j : Nat} {t : TypeId} {v u : Value} {xs us : List Value} (h : w.ownsRow B t size v n xs) (hG : w.ownsRow B' 32 1 (.slice (some ⟨g, 0, none⟩) n' c) n' us) (ht : t ≠ 32) : (w.setCell ⟨g, j, none⟩ u).ownsRow B t size v n xs := by
  refine h.kept (gset1 w g j u) ?_
  cases hv : v.ownBlock with
  | none => exact .inl rfl
  | some b => exact .inr fun e => own_apart h hG ht b hv (by simp [Value.ownBlock]; cases e; rfl)
theorem fin_hunt {w w3 : World} {O R B1 B2 B3 B4 B5 n1 n2 : Nat} {cv tv mv xv lv : Value} {xs1 xs2 us us5 ul : List Value} {rm rx rl : List (List Int)} (hb : Blk w3 O 97 #[cv, tv, mv, .slice none 0 0, lv]) (hr : Blk w3 R 97 #[.slice none 0 0, .slice none 0 0, .slice none 0 0, .slice none 0 0, .slice none 0 0]) (hOR : R ≠ O)
    (hc : w3.ownsRow B1 67 1 cv n1 xs1) (ht : w3.ownsRow B2 67 1 tv n2 xs2) (hm : OwnG w3 B3 mv us rm) (hx : OwnG w3 B4 xv us5 rx) (hl : OwnG w3 B5 lv ul rl) (hB : Below w.heap.size w w3) (hO : w.heap.size ≤ O) (hR : w.heap.size ≤ R) :
    ∃ w5, w5 = ((((((w3.setCell ⟨O, 3, none⟩ xv).setCell ⟨R, 0, none⟩ cv).setCell ⟨R, 1, none⟩ tv).setCell ⟨R, 2, none⟩ mv).setCell ⟨R, 3, none⟩ xv).setCell ⟨R, 4, none⟩ lv) ∧
      Blk w5 R 97 #[cv, tv, mv, xv, lv] ∧ w5.ownsRow B1 67 1 cv n1 xs1 ∧ w5.ownsRow B2 67 1 tv n2 xs2 ∧ OwnG w5 B3 mv us rm ∧ OwnG w5 B4 xv us5 rx ∧ OwnG w5 B5 lv ul rl ∧ Below w.heap.size w w5 := by
  have k1 := gset1 w3 O 3 xv
  have hr4 := hr.far (p := ⟨O, 3, none⟩) hOR xv
  have c4 := hc.kept k1 (.inr (own_ne hc hb (by decide)))
  have t4 := ht.kept k1 (.inr (own_ne ht hb (by decide)))
  have m4 := OwnG.kept_c hm hb (by decide) (by decide) k1
  have x4 := OwnG.kept_c hx hb (by decide) (by decide) k1
  have l4 := OwnG.kept_c hl hb (by decide) (by decide) k1
  have B4' := hB.setCell (p := ⟨O, 3, none⟩) hO xv
  generalize w3.setCell ⟨O, 3, none⟩ xv = w4 at *
  have k5 : w4.grownBy (((((w4.setCell ⟨R, 0, none⟩ cv).setCell ⟨R, 1, none⟩ tv).setCell ⟨R, 2, none⟩ mv).setCell ⟨R, 3, none⟩ xv).setCell ⟨R, 4, none⟩ lv) (some R) := gset (gset (gset (gset (gset1 w4 R 0 _) 1 _) 2 _) 3 _) 4 _
  have h1 := ((((hr4.set_ 0 cv).set_ 1 tv).set_ 2 mv).set_ 3 xv).set_ 4 lv
  exact ⟨_, rfl, by simpa using h1, c4.kept k5 (.inr (own_ne c4 hr4 (by decide))), t4.kept k5 (.inr (own_ne t4 hr4 (by decide))), OwnG.kept_c m4 hr4 (by decide) (by decide) k5, OwnG.kept_c x4 hr4 (by decide) (by decide) k5, OwnG.kept_c l4 hr4 (by decide) (by decide) k5,
    ((((B4'.setCell hR _).setCell hR _).setCell hR _).setCell hR _).setCell hR _⟩
set_option maxHeartbeats 20000000 in
set_option maxRecDepth 100000 in
theorem huntIn_yes (n k : Nat) (v : Value) (l : List Ed) (w : World) (h : Edges w v l) (hl : l.length ≤ 1048576) (hf : FieldP (n : Int) l (k : Int)) :
    Calls Try.prog 86 #[.agg #[.int .i64 (n : Int), v], .int .i64 (k : Int)] w fun e w' => ∃ cv tv mv xv lv us us' ul, e = .returned (.tuple #[.agg #[cv, tv, mv, xv, lv], .bool true]) ∧ ChaseR w' (gameN l n k) l (mvG l n k) cv tv mv us ∧
      (∃ A c, xv = .slice A (gridG (gameN l n k).P n (tms (gameN l n k))).length c) ∧ OwnG w' w.heap.size xv us' (gridG (gameN l n k).P n (tms (gameN l n k))) ∧ (∃ A c, lv = .slice A (rowsN (listsN n k 0)).length c) ∧ OwnG w' w.heap.size lv ul (rowsN (listsN n k 0)) ∧ Below w.heap.size w w' := by
  obtain ⟨A, c, rfl, -⟩ := h.form
  obtain ⟨i0, hi, hz0, hz1, hz2⟩ := info_parts infoU
  obtain ⟨i1, hi1, hy0, hy1, hy2⟩ := info_parts infoRow
  obtain ⟨i2, hi2, hx0, hx1, hx2⟩ := info_parts infoInt
  have H := Lib.hid h
  have hn : n ≤ 8 := by have := hf.1.2.1; omega
  have hk3 : k ≤ 3 := by have := hf.2.2.2; omega
  have hk1 : 1 ≤ k := by have := hf.2.2.1; omega
  have HF := Lib.hid hf
  have hP := game_small hn hk3
  have b0 : Below w.heap.size w ((w.alloc (.cells #[.int .i64 (n : Int), .slice A l.length c] 28)).alloc (.cells #[.slice none 0 0, .slice none 0 0, .slice none 0 0, .slice none 0 0, .slice none 0 0] 97)) := ((Below.refl _ _).alloc (Nat.le_refl _) _).alloc (by simp) _
  have g0 := (Blk.new w 28 #[.int .i64 (n : Int), .slice A l.length c]).alloc (.cells #[.slice none 0 0, .slice none 0 0, .slice none 0 0, .slice none 0 0, .slice none 0 0] 97)
  have r0 := Blk.new (w.alloc (.cells #[.int .i64 (n : Int), .slice A l.length c] 28)) 97 #[.slice none 0 0, .slice none 0 0, .slice none 0 0, .slice none 0 0, .slice none 0 0]
  rw [World.size_alloc] at r0
  obtain ⟨p0, p1, -, -⟩ := g0.two
  have HCL := Lib.hid (implCopL_any (n : Int) (k : Int) (.slice A l.length c) l _ (h.below b0) hl)
  clear h hf
  go_enter Try.func86, Try.ntmps86
  go_wp2_with fail
  refine HCL.out.mono ?_
  rintro e w1 ⟨A1, c1, ul, rfl, o1, b1⟩
  rw [gdG_yes HF.out] at o1 ⊢
  rw [okG_yes HF.out]
  have hv9 : copL (n : Int) (k : Int) = rowsN (listsN n k 0) := rfl
  rw [hv9] at o1 ⊢
  have HRL := Lib.hid (rowsN_len (listsN n k 0))
  rw [HRL.out] at o1 ⊢
  have e1 := btrans b0 b1
  have HE1 := Lib.hid e1
  have HG1 := Lib.hid (g0.below b1 g0.lt)
  have HR1 := Lib.hid (r0.below b1 r0.lt)
  have HLO := Lib.hid (OwnG.base o1 (show w.heap.size ≤ _ from b0.size))
  have hlt1 := HR1.out.lt
  have HCB := Lib.hid (fun (W : World) (hb : Below w1.heap.size w1 W) => closedBits_own n (.slice A l.length c) l W ((H.out.below e1).below hb) hl HF.out.1 hn)
  have HMK := Lib.hid (fun (W : World) => by have h_ := OwnG.made W (listsN n k 0).length (by unfold maxLen; omega); rw [Nat.mul_one] at h_; exact h_)
  have hmk := fun (W : World) => run_make_rowN (P := Try.prog) 42 32 i1 (.slice none 0 0) Try.underlying42 hi1 hy0 .i64 .i64 (listsN n k 0).length (listsN n k 0).length (Nat.le_refl _) (by rw [hy2]; omega) (by omega) W
  rw [hy1, Nat.mul_one] at hmk
  obtain ⟨q0, q1, -, -⟩ := HG1.out.two
  clear HCL b0 g0 r0 b1 p0 p1 o1 hv9 e1
  go_wp2_with fail
  have HSK := Lib.hid (fun (W : World) (hb : Below w1.heap.size w1 W) => (⟨nearv.cell_keep q0 hb, nearv.cell_keep q1 hb⟩ : W.cell? ⟨w.heap.size, 0, none⟩ = some (.int .i64 (n : Int)) ∧ W.cell? ⟨w.heap.size, 1, none⟩ = some (.slice A l.length c)))
  go_cut [8] (fun a wx => ∃ O cv mv us, a = .pointer (some ⟨O, 0, none⟩) ∧ CutH w1 wx l n (listsN n k 0).length (.slice A1 (listsN n k 0).length c1) O cv mv us)
  case first =>
    refine wp_region_held_drew (S := (fun w' : World => w'.cell? ⟨w.heap.size, 0, none⟩ = some (.int .i64 (n : Int)) ∧ w'.cell? ⟨w.heap.size, 1, none⟩ = some (.slice A l.length c))) (by kernel_rfl) (by (try dsimp only); simp [*]) (fun hHeld => ?_)
    change wpAnyH _ _ _ _ _ _ #[false, false, false, false, false, false, false, false, false, false] _ _
    refine wpAnyH_take (i := 0) (oi := ⟨some 22, _, _, _, _, _⟩) (v := ?_) rfl (by kernel_rfl) (by kernel_rfl) (by kernel_rfl) (fun _ _ _ h => h) (Or.inl ⟨by rfl, ?_⟩) (by assumption) ?_
    rotate_left
    · (intro w hSw; (try dsimp only at hSw); go_simp; (try (with_reducible rfl)))
    try simp only [Act.put, List.setIfInBounds_toArray, List.set_cons_zero, List.set_cons_succ]
    refine wpAnyH_take (i := 2) (oi := ⟨some 24, _, _, _, _, _⟩) (v := ?_) rfl (by kernel_rfl) (by kernel_rfl) (by kernel_rfl) (fun _ _ _ h => h) (Or.inl ⟨by rfl, ?_⟩) (by assumption) ?_
    rotate_left
    · (intro w hSw; (try dsimp only at hSw); go_simp; (try (with_reducible rfl)))
    try simp only [Act.put, List.setIfInBounds_toArray, List.set_cons_zero, List.set_cons_succ]
    refine wpAnyH_take (i := 3) (oi := ⟨some 25, _, _, _, _, _⟩) (v := ?_) rfl (by kernel_rfl) (by kernel_rfl) (by kernel_rfl) (fun _ _ _ h => h) (Or.inl ⟨by rfl, ?_⟩) (by assumption) ?_
    rotate_left
    · (intro w hSw; (try dsimp only at hSw); go_simp; (try (with_reducible rfl)))
    try simp only [Act.put, List.setIfInBounds_toArray, List.set_cons_zero, List.set_cons_succ]
    refine wpAnyH_take (i := 6) (oi := ⟨some 28, _, _, _, _, _⟩) (v := ?_) rfl (by kernel_rfl) (by kernel_rfl) (by kernel_rfl) (fun _ _ _ h => h) (Or.inl ⟨by rfl, ?_⟩) (by assumption) ?_
    rotate_left
    · (intro w hSw; (try dsimp only at hSw); go_simp; (try (with_reducible rfl)))
    try simp only [Act.put, List.setIfInBounds_toArray, List.set_cons_zero, List.set_cons_succ]
    refine wpAnyH_ready (rs := [1, 4, 8]) (by kernel_rfl) (by simp) ?_
    refine AllReadyH.cons (o := ⟨some 23, _, _, _, _, _⟩) rfl (fun K hK => ?_) (AllReadyH.cons (o := ⟨some 26, _, _, _, _, _⟩) rfl (fun K hK => ?_) (AllReadyH.cons (o := ⟨some 8, _, _, _, _, _⟩) rfl (fun K hK => ?_) AllReadyH.nil))
    focus
      go_simp
      go_at_call 55
      have D2 : Below w1.heap.size w1 w1.drew := (Below.refl _ _).drew
      refine (HCB.out w1.drew D2).mono ?_
      rintro e w3 ⟨A3, c3, rfl, o3, b3⟩
      have d3 : Below w1.heap.size w1 w3 := btrans D2 b3
      have o4 := own_base o3 D2.size
      clear o3 b3
      go_wp2_with fail
      refine hK.out _ _ (HSK.out _ (d3)) (fun hHeld => ?_)
      clear hK K
      refine wpAnyH_ready (rs := [4, 8]) (by kernel_rfl) (by simp) ?_
      refine AllReadyH.cons (o := ⟨some 26, _, _, _, _, _⟩) rfl (fun K hK => ?_) (AllReadyH.cons (o := ⟨some 8, _, _, _, _, _⟩) rfl (fun K hK => ?_) AllReadyH.nil)
      focus
        go_simp
        refine hK.out _ _ (HSK.out _ ((d3.alloc d3.size _))) (fun hHeld => ?_)
        clear hK K
        refine wpAnyH_take (i := 5) (oi := ⟨some 27, _, _, _, _, _⟩) (v := ?_) rfl (by kernel_rfl) (by kernel_rfl) (by kernel_rfl) (fun _ _ _ h => h) (Or.inl ⟨by rfl, ?_⟩) (by assumption) ?_
        rotate_left
        · (intro w hSw; (try dsimp only at hSw); go_simp; (try (with_reducible rfl)))
        try simp only [Act.put, List.setIfInBounds_toArray, List.set_cons_zero, List.set_cons_succ]
        refine wpAnyH_take (i := 7) (oi := ⟨some 29, _, _, _, _, _⟩) (v := ?_) rfl (by kernel_rfl) (by kernel_rfl) (by kernel_rfl) (fun _ _ _ h => h) (Or.inl ⟨by rfl, ?_⟩) (by assumption) ?_
        rotate_left
        · (intro w hSw; (try dsimp only at hSw); go_simp; (try (with_reducible rfl)))
        try simp only [Act.put, List.setIfInBounds_toArray, List.set_cons_zero, List.set_cons_succ]
        refine wpAnyH_ready (rs := [8]) (by kernel_rfl) (by simp) ?_
        refine AllReadyH.cons (o := ⟨some 8, _, _, _, _, _⟩) rfl (fun K hK => ?_) AllReadyH.nil
        go_simp
        refine hK.out _ _ (HSK.out _ (((d3.alloc d3.size _).alloc (by have := d3.size; first | (simp; done) | (simp; omega)) _))) (fun hHeld => ?_)
        clear hK K
        refine wpAnyH_ready (rs := [9]) (by kernel_rfl) (by simp) ?_
        refine AllReadyH.cons rfl (fun K hK => ?_) AllReadyH.nil
        go_simp
        refine hK.out _ _ (HSK.out _ (((d3.alloc d3.size _).alloc (by have := d3.size; first | (simp; done) | (simp; omega)) _))) (fun hHeld => ?_)
        clear hK K
        refine wpAnyH_done (by kernel_rfl) ?_ _
      rotate_left 1
      focus
        go_simp
        refine hK.out _ _ (HSK.out _ ((d3.alloc d3.size _))) (fun hHeld => ?_)
        clear hK K
        refine wpAnyH_ready (rs := [4]) (by kernel_rfl) (by simp) ?_
        refine AllReadyH.cons (o := ⟨some 26, _, _, _, _, _⟩) rfl (fun K hK => ?_) AllReadyH.nil
        go_simp
        refine hK.out _ _ (HSK.out _ (((d3.alloc d3.size _).alloc (by have := d3.size; first | (simp; done) | (simp; omega)) _))) (fun hHeld => ?_)
        clear hK K
        refine wpAnyH_take (i := 5) (oi := ⟨some 27, _, _, _, _, _⟩) (v := ?_) rfl (by kernel_rfl) (by kernel_rfl) (by kernel_rfl) (fun _ _ _ h => h) (Or.inl ⟨by rfl, ?_⟩) (by assumption) ?_
        rotate_left
        · (intro w hSw; (try dsimp only at hSw); go_simp; (try (with_reducible rfl)))
        try simp only [Act.put, List.setIfInBounds_toArray, List.set_cons_zero, List.set_cons_succ]
        refine wpAnyH_take (i := 7) (oi := ⟨some 29, _, _, _, _, _⟩) (v := ?_) rfl (by kernel_rfl) (by kernel_rfl) (by kernel_rfl) (fun _ _ _ h => h) (Or.inl ⟨by rfl, ?_⟩) (by assumption) ?_
        rotate_left
        · (intro w hSw; (try dsimp only at hSw); go_simp; (try (with_reducible rfl)))
        try simp only [Act.put, List.setIfInBounds_toArray, List.set_cons_zero, List.set_cons_succ]
        refine wpAnyH_ready (rs := [9]) (by kernel_rfl) (by simp) ?_
        refine AllReadyH.cons rfl (fun K hK => ?_) AllReadyH.nil
        go_simp
        refine hK.out _ _ (HSK.out _ (((d3.alloc d3.size _).alloc (by have := d3.size; first | (simp; done) | (simp; omega)) _))) (fun hHeld => ?_)
        clear hK K
        refine wpAnyH_done (by kernel_rfl) ?_ _
      rotate_left 1
    rotate_left 2
    focus
      go_simp
      refine hK.out _ _ (HSK.out _ (((Below.refl _ _).alloc (Nat.le_refl _) _).drew)) (fun hHeld => ?_)
      clear hK K
      refine wpAnyH_ready (rs := [1, 8]) (by kernel_rfl) (by simp) ?_
      refine AllReadyH.cons (o := ⟨some 23, _, _, _, _, _⟩) rfl (fun K hK => ?_) (AllReadyH.cons (o := ⟨some 8, _, _, _, _, _⟩) rfl (fun K hK => ?_) AllReadyH.nil)
      focus
        go_simp
        go_at_call 55
        have D2 : Below w1.heap.size w1 (w1.alloc (.cells (madeCells #[.slice none 0 0] (listsN n k 0).length) 32)).drew := ((Below.refl _ _).alloc (Nat.le_refl _) _).drew
        refine (HCB.out (w1.alloc (.cells (madeCells #[.slice none 0 0] (listsN n k 0).length) 32)).drew D2).mono ?_
        rintro e w3 ⟨A3, c3, rfl, o3, b3⟩
        have d3 : Below w1.heap.size w1 w3 := btrans D2 b3
        have o4 := own_base o3 D2.size
        have x3 := ((HMK.out w1).below ((Below.refl _ _).drew)).below b3
        clear o3 b3
        go_wp2_with fail
        refine hK.out _ _ (HSK.out _ (d3)) (fun hHeld => ?_)
        clear hK K
        refine wpAnyH_take (i := 5) (oi := ⟨some 27, _, _, _, _, _⟩) (v := ?_) rfl (by kernel_rfl) (by kernel_rfl) (by kernel_rfl) (fun _ _ _ h => h) (Or.inl ⟨by rfl, ?_⟩) (by assumption) ?_
        rotate_left
        · (intro w hSw; (try dsimp only at hSw); go_simp; (try (with_reducible rfl)))
        try simp only [Act.put, List.setIfInBounds_toArray, List.set_cons_zero, List.set_cons_succ]
        refine wpAnyH_take (i := 7) (oi := ⟨some 29, _, _, _, _, _⟩) (v := ?_) rfl (by kernel_rfl) (by kernel_rfl) (by kernel_rfl) (fun _ _ _ h => h) (Or.inl ⟨by rfl, ?_⟩) (by assumption) ?_
        rotate_left
        · (intro w hSw; (try dsimp only at hSw); go_simp; (try (with_reducible rfl)))
        try simp only [Act.put, List.setIfInBounds_toArray, List.set_cons_zero, List.set_cons_succ]
        refine wpAnyH_ready (rs := [8]) (by kernel_rfl) (by simp) ?_
        refine AllReadyH.cons (o := ⟨some 8, _, _, _, _, _⟩) rfl (fun K hK => ?_) AllReadyH.nil
        go_simp
        refine hK.out _ _ (HSK.out _ ((d3.alloc d3.size _))) (fun hHeld => ?_)
        clear hK K
        refine wpAnyH_ready (rs := [9]) (by kernel_rfl) (by simp) ?_
        refine AllReadyH.cons rfl (fun K hK => ?_) AllReadyH.nil
        go_simp
        refine hK.out _ _ (HSK.out _ ((d3.alloc d3.size _))) (fun hHeld => ?_)
        clear hK K
        refine wpAnyH_done (by kernel_rfl) ?_ _
      rotate_left 1
      focus
        go_simp
        refine hK.out _ _ (HSK.out _ ((((Below.refl _ _).alloc (Nat.le_refl _) _).alloc (by simp) _).drew)) (fun hHeld => ?_)
        clear hK K
        refine wpAnyH_ready (rs := [1]) (by kernel_rfl) (by simp) ?_
        refine AllReadyH.cons (o := ⟨some 23, _, _, _, _, _⟩) rfl (fun K hK => ?_) AllReadyH.nil
        go_simp
        go_at_call 55
        have D2 : Below w1.heap.size w1 ((w1.alloc (.cells (madeCells #[.slice none 0 0] (listsN n k 0).length) 32)).alloc (.cells #[.slice none 0 0, .slice none 0 0, .slice none 0 0, .slice none 0 0, .slice none 0 0] 97)).drew := (((Below.refl _ _).alloc (Nat.le_refl _) _).alloc (by simp) _).drew
        refine (HCB.out ((w1.alloc (.cells (madeCells #[.slice none 0 0] (listsN n k 0).length) 32)).alloc (.cells #[.slice none 0 0, .slice none 0 0, .slice none 0 0, .slice none 0 0, .slice none 0 0] 97)).drew D2).mono ?_
        rintro e w3 ⟨A3, c3, rfl, o3, b3⟩
        have d3 : Below w1.heap.size w1 w3 := btrans D2 b3
        have o4 := own_base o3 D2.size
        have x3 := (((HMK.out w1).below ((Below.refl _ _).alloc (Nat.le_refl _) (.cells #[.slice none 0 0, .slice none 0 0, .slice none 0 0, .slice none 0 0, .slice none 0 0] 97))).below ((Below.refl _ _).drew)).below b3
        have v3 := ((Blk.new (w1.alloc (.cells (madeCells #[.slice none 0 0] (listsN n k 0).length) 32)) 97 #[.slice none 0 0, .slice none 0 0, .slice none 0 0, .slice none 0 0, .slice none 0 0]).drewN 1).below b3 (show _ < (((w1.alloc (.cells (madeCells #[.slice none 0 0] (listsN n k 0).length) 32)).alloc (.cells #[.slice none 0 0, .slice none 0 0, .slice none 0 0, .slice none 0 0, .slice none 0 0] 97)).drew).heap.size by first | (simp; done) | (simp; omega))
        rw [World.size_alloc] at v3
        obtain ⟨vva, vvb, vvc, vvd, vve⟩ := blk5 v3
        have vvz0 := v3.frozen 0
        have vvz1 := v3.frozen 1
        have vvz2 := v3.frozen 2
        have vvz3 := v3.frozen 3
        have vvz4 := v3.frozen 4
        clear o3 b3
        go_wp2_with fail
        refine hK.out _ _ (HSK.out _ (d3)) (fun hHeld => ?_)
        clear hK K
        refine wpAnyH_take (i := 5) (oi := ⟨some 27, _, _, _, _, _⟩) (v := ?_) rfl (by kernel_rfl) (by kernel_rfl) (by kernel_rfl) (fun _ _ _ h => h) (Or.inl ⟨by rfl, ?_⟩) (by assumption) ?_
        rotate_left
        · (intro w hSw; (try dsimp only at hSw); go_simp; (try (with_reducible rfl)))
        try simp only [Act.put, List.setIfInBounds_toArray, List.set_cons_zero, List.set_cons_succ]
        refine wpAnyH_take (i := 7) (oi := ⟨some 29, _, _, _, _, _⟩) (v := ?_) rfl (by kernel_rfl) (by kernel_rfl) (by kernel_rfl) (fun _ _ _ h => h) (Or.inl ⟨by rfl, ?_⟩) (by assumption) ?_
        rotate_left
        · (intro w hSw; (try dsimp only at hSw); go_simp; (try (with_reducible rfl)))
        try simp only [Act.put, List.setIfInBounds_toArray, List.set_cons_zero, List.set_cons_succ]
        refine wpAnyH_ready (rs := [9]) (by kernel_rfl) (by simp) ?_
        refine AllReadyH.cons rfl (fun K hK => ?_) AllReadyH.nil
        go_simp
        refine hK.out _ _ (HSK.out _ (Below.setCell ((Below.setCell ((Below.setCell ((Below.setCell ((Below.setCell (d3) (by have := d3.size; first | (simp; done) | (simp; omega)) _)) (by have := d3.size; first | (simp; done) | (simp; omega)) _)) (by have := d3.size; first | (simp; done) | (simp; omega)) _)) (by have := d3.size; first | (simp; done) | (simp; omega)) _)) (by have := d3.size; first | (simp; done) | (simp; omega)) _)) (fun hHeld => ?_)
        clear hK K
        refine wpAnyH_done (by kernel_rfl) ?_ _
      rotate_left 1
    rotate_left 2
    focus
      go_simp
      refine hK.out _ _ (HSK.out _ (((Below.refl _ _).alloc (Nat.le_refl _) _).drew)) (fun hHeld => ?_)
      clear hK K
      refine wpAnyH_ready (rs := [1, 4]) (by kernel_rfl) (by simp) ?_
      refine AllReadyH.cons (o := ⟨some 23, _, _, _, _, _⟩) rfl (fun K hK => ?_) (AllReadyH.cons (o := ⟨some 26, _, _, _, _, _⟩) rfl (fun K hK => ?_) AllReadyH.nil)
      focus
        go_simp
        go_at_call 55
        have D2 : Below w1.heap.size w1 (w1.alloc (.cells #[.slice none 0 0, .slice none 0 0, .slice none 0 0, .slice none 0 0, .slice none 0 0] 97)).drew := ((Below.refl _ _).alloc (Nat.le_refl _) _).drew
        refine (HCB.out (w1.alloc (.cells #[.slice none 0 0, .slice none 0 0, .slice none 0 0, .slice none 0 0, .slice none 0 0] 97)).drew D2).mono ?_
        rintro e w3 ⟨A3, c3, rfl, o3, b3⟩
        have d3 : Below w1.heap.size w1 w3 := btrans D2 b3
        have o4 := own_base o3 D2.size
        have v3 := ((Blk.new w1 97 #[.slice none 0 0, .slice none 0 0, .slice none 0 0, .slice none 0 0, .slice none 0 0]).drewN 1).below b3 (show _ < ((w1.alloc (.cells #[.slice none 0 0, .slice none 0 0, .slice none 0 0, .slice none 0 0, .slice none 0 0] 97)).drew).heap.size by first | (simp; done) | (simp; omega))
        obtain ⟨vva, vvb, vvc, vvd, vve⟩ := blk5 v3
        have vvz0 := v3.frozen 0
        have vvz1 := v3.frozen 1
        have vvz2 := v3.frozen 2
        have vvz3 := v3.frozen 3
        have vvz4 := v3.frozen 4
        have v4 := v3.alloc (.cells (madeCells #[.slice none 0 0] (listsN n k 0).length) 32)
        obtain ⟨vwa, vwb, vwc, vwd, vwe⟩ := blk5 v4
        have vwz0 := v4.frozen 0
        have vwz1 := v4.frozen 1
        have vwz2 := v4.frozen 2
        have vwz3 := v4.frozen 3
        have vwz4 := v4.frozen 4
        clear o3 b3
        go_wp2_with fail
        refine hK.out _ _ (HSK.out _ (d3)) (fun hHeld => ?_)
        clear hK K
        refine wpAnyH_ready (rs := [4]) (by kernel_rfl) (by simp) ?_
        refine AllReadyH.cons (o := ⟨some 26, _, _, _, _, _⟩) rfl (fun K hK => ?_) AllReadyH.nil
        go_simp
        refine hK.out _ _ (HSK.out _ ((d3.alloc d3.size _))) (fun hHeld => ?_)
        clear hK K
        refine wpAnyH_take (i := 5) (oi := ⟨some 27, _, _, _, _, _⟩) (v := ?_) rfl (by kernel_rfl) (by kernel_rfl) (by kernel_rfl) (fun _ _ _ h => h) (Or.inl ⟨by rfl, ?_⟩) (by assumption) ?_
        rotate_left
        · (intro w hSw; (try dsimp only at hSw); go_simp; (try (with_reducible rfl)))
        try simp only [Act.put, List.setIfInBounds_toArray, List.set_cons_zero, List.set_cons_succ]
        refine wpAnyH_take (i := 7) (oi := ⟨some 29, _, _, _, _, _⟩) (v := ?_) rfl (by kernel_rfl) (by kernel_rfl) (by kernel_rfl) (fun _ _ _ h => h) (Or.inl ⟨by rfl, ?_⟩) (by assumption) ?_
        rotate_left
        · (intro w hSw; (try dsimp only at hSw); go_simp; (try (with_reducible rfl)))
        try simp only [Act.put, List.setIfInBounds_toArray, List.set_cons_zero, List.set_cons_succ]
        refine wpAnyH_ready (rs := [9]) (by kernel_rfl) (by simp) ?_
        refine AllReadyH.cons rfl (fun K hK => ?_) AllReadyH.nil
        go_simp
        refine hK.out _ _ (HSK.out _ (Below.setCell ((Below.setCell ((Below.setCell ((Below.setCell ((Below.setCell ((d3.alloc d3.size _)) (by have := d3.size; first | (simp; done) | (simp; omega)) _)) (by have := d3.size; first | (simp; done) | (simp; omega)) _)) (by have := d3.size; first | (simp; done) | (simp; omega)) _)) (by have := d3.size; first | (simp; done) | (simp; omega)) _)) (by have := d3.size; first | (simp; done) | (simp; omega)) _)) (fun hHeld => ?_)
        clear hK K
        refine wpAnyH_done (by kernel_rfl) ?_ _
      rotate_left 1
      focus
        go_simp
        refine hK.out _ _ (HSK.out _ ((((Below.refl _ _).alloc (Nat.le_refl _) _).alloc (by simp) _).drew)) (fun hHeld => ?_)
        clear hK K
        refine wpAnyH_ready (rs := [1]) (by kernel_rfl) (by simp) ?_
        refine AllReadyH.cons (o := ⟨some 23, _, _, _, _, _⟩) rfl (fun K hK => ?_) AllReadyH.nil
        go_simp
        go_at_call 55
        have D2 : Below w1.heap.size w1 ((w1.alloc (.cells #[.slice none 0 0, .slice none 0 0, .slice none 0 0, .slice none 0 0, .slice none 0 0] 97)).alloc (.cells (madeCells #[.slice none 0 0] (listsN n k 0).length) 32)).drew := (((Below.refl _ _).alloc (Nat.le_refl _) _).alloc (by simp) _).drew
        refine (HCB.out ((w1.alloc (.cells #[.slice none 0 0, .slice none 0 0, .slice none 0 0, .slice none 0 0, .slice none 0 0] 97)).alloc (.cells (madeCells #[.slice none 0 0] (listsN n k 0).length) 32)).drew D2).mono ?_
        rintro e w3 ⟨A3, c3, rfl, o3, b3⟩
        have d3 : Below w1.heap.size w1 w3 := btrans D2 b3
        have o4 := own_base o3 D2.size
        have v3 := (((Blk.new w1 97 #[.slice none 0 0, .slice none 0 0, .slice none 0 0, .slice none 0 0, .slice none 0 0]).alloc (.cells (madeCells #[.slice none 0 0] (listsN n k 0).length) 32)).drewN 1).below b3 (show _ < (((w1.alloc (.cells #[.slice none 0 0, .slice none 0 0, .slice none 0 0, .slice none 0 0, .slice none 0 0] 97)).alloc (.cells (madeCells #[.slice none 0 0] (listsN n k 0).length) 32)).drew).heap.size by first | (simp; done) | (simp; omega))
        obtain ⟨vva, vvb, vvc, vvd, vve⟩ := blk5 v3
        have vvz0 := v3.frozen 0
        have vvz1 := v3.frozen 1
        have vvz2 := v3.frozen 2
        have vvz3 := v3.frozen 3
        have vvz4 := v3.frozen 4
        have x3 := ((HMK.out (w1.alloc (.cells #[.slice none 0 0, .slice none 0 0, .slice none 0 0, .slice none 0 0, .slice none 0 0] 97))).below ((Below.refl _ _).drew)).below b3
        rw [World.size_alloc] at x3
        clear o3 b3
        go_wp2_with fail
        refine hK.out _ _ (HSK.out _ (d3)) (fun hHeld => ?_)
        clear hK K
        refine wpAnyH_take (i := 5) (oi := ⟨some 27, _, _, _, _, _⟩) (v := ?_) rfl (by kernel_rfl) (by kernel_rfl) (by kernel_rfl) (fun _ _ _ h => h) (Or.inl ⟨by rfl, ?_⟩) (by assumption) ?_
        rotate_left
        · (intro w hSw; (try dsimp only at hSw); go_simp; (try (with_reducible rfl)))
        try simp only [Act.put, List.setIfInBounds_toArray, List.set_cons_zero, List.set_cons_succ]
        refine wpAnyH_take (i := 7) (oi := ⟨some 29, _, _, _, _, _⟩) (v := ?_) rfl (by kernel_rfl) (by kernel_rfl) (by kernel_rfl) (fun _ _ _ h => h) (Or.inl ⟨by rfl, ?_⟩) (by assumption) ?_
        rotate_left
        · (intro w hSw; (try dsimp only at hSw); go_simp; (try (with_reducible rfl)))
        try simp only [Act.put, List.setIfInBounds_toArray, List.set_cons_zero, List.set_cons_succ]
        refine wpAnyH_ready (rs := [9]) (by kernel_rfl) (by simp) ?_
        refine AllReadyH.cons rfl (fun K hK => ?_) AllReadyH.nil
        go_simp
        refine hK.out _ _ (HSK.out _ (Below.setCell ((Below.setCell ((Below.setCell ((Below.setCell ((Below.setCell (d3) (by have := d3.size; first | (simp; done) | (simp; omega)) _)) (by have := d3.size; first | (simp; done) | (simp; omega)) _)) (by have := d3.size; first | (simp; done) | (simp; omega)) _)) (by have := d3.size; first | (simp; done) | (simp; omega)) _)) (by have := d3.size; first | (simp; done) | (simp; omega)) _)) (fun hHeld => ?_)
        clear hK K
        refine wpAnyH_done (by kernel_rfl) ?_ _
      rotate_left 1
    rotate_left 2
    all_goals (go_wp2_with fail; go_meet)
    · exact ⟨_, _, _, _, rfl, CutH.new (World.size_alloc _ _) (o4.alloc _) ((HMK.out w3).base d3.size) (d3.alloc d3.size _) ⟨_, _, rfl⟩ ⟨_, rfl⟩⟩
    · exact ⟨_, _, _, _, rfl, CutH.two o4 d3 HMK.out⟩
    · exact ⟨_, _, _, _, rfl, CutH.new rfl o4 x3 d3 ⟨_, _, rfl⟩ ⟨_, rfl⟩⟩
    · exact ⟨_, _, _, _, rfl, CutH.set v3 o4 x3 d3 (Nat.le_succ _) ⟨_, _, rfl⟩ ⟨_, rfl⟩⟩
    · exact ⟨_, _, _, _, rfl, CutH.set v4 (o4.alloc _) ((HMK.out w3).base d3.size) (d3.alloc d3.size _) (Nat.le_refl _) ⟨_, _, rfl⟩ ⟨_, rfl⟩⟩
    · exact ⟨_, _, _, _, rfl, CutH.set v3 o4 (x3.base (Nat.le_succ _)) d3 (Nat.le_refl _) ⟨_, _, rfl⟩ ⟨_, rfl⟩⟩
  case rest =>
    obtain ⟨O, cv, mv, us, rfl, hbO, hco, hmo, hBc, hO1, hO2, ⟨Ac, cc, rfl⟩, ⟨gm, rfl⟩⟩ := hcut
    obtain ⟨wd, hwd⟩ : ∃ wd, wd = wc := ⟨_, rfl⟩
    subst hwd
    have hPP : (gameN l n k).P = (listsN n k 0).length := rfl
    have HPP := Lib.hid hPP
    have HM0 : Hid (OwnG wd w1.heap.size (.slice (some ⟨gm, 0, none⟩) (listsN n k 0).length (listsN n k 0).length) us (mvT l n k 0 [])) := by
      show OwnG _ _ _ _ _
      rw [← mvT_zero]; exact hmo
    have HCLT : Hid (∀ b, (Value.slice Ac n cc).ownBlock = some b → b < wd.heap.size) := fun b hb => (hco.lt b hb).2
    have HBO := Lib.hid hbO
    have HCO := Lib.hid hco
    have HBC := Lib.hid hBc
    clear hmo hbO hco hBc HSK HMK hmk HCB q0 q1 hPP
    have HLEN : Hid (∀ p, p < (listsN n k 0).length → cfg n k p ∈ listsN n k 0) := fun p hp => cfg_mem hp
    go_wp2_with fail
    go_loopg [32] (listsN n k 0).length (fun g iv wr => ∃ (p : Nat) (tv : Value) (us : List Value), p + g = (listsN n k 0).length ∧ iv = .int .i64 (p : Int) ∧ Blk wr O 97 #[.slice Ac n cc, tv, .slice (some ⟨gm, 0, none⟩) (listsN n k 0).length (listsN n k 0).length, .slice none 0 0, .slice A1 (listsN n k 0).length c1] ∧
      wr.ownsRow wd.heap.size 67 1 tv p (cellsU (tkK l n k p)) ∧ OwnG wr w1.heap.size (.slice (some ⟨gm, 0, none⟩) (listsN n k 0).length (listsN n k 0).length) us (mvT l n k p []) ∧ wr.ownsRow w1.heap.size 67 1 (.slice Ac n cc) n (cellsU (clos l n)) ∧ Below w1.heap.size w1 wr ∧ wd.heap.size ≤ wr.heap.size)
    case atStart => exact ⟨0, _, us, by omega, rfl, HBO.out, World.ownsRow_nil _ _ _ _, HM0.out, HCO.out, HBC.out, Nat.le_refl _⟩
    case round =>
      clear HBO HM0 HCO HBC
      obtain ⟨p, tv, us, hpg, rfl, hbO, htv, hM, hco, hB, hwc⟩ := hrel
      obtain ⟨x0, x1, x2, x3, x4⟩ := blk5 hbO
      cases gk with
      | zero =>
        obtain rfl : p = (listsN n k 0).length := by omega
        obtain ⟨At, ct, rfl⟩ := own_form htv
        have hlc := mvG_len l n k
        have hM2 : OwnG wr w1.heap.size (.slice (some ⟨gm, 0, none⟩) (listsN n k 0).length (listsN n k 0).length) us (mvG l n k) := by
          rw [← mvT_all]; exact hM
        have hCR : ChaseR wr (gameN l n k) l (mvG l n k) (.slice Ac n cc) (.slice At (listsN n k 0).length ct) (.slice (some ⟨gm, 0, none⟩) (listsN n k 0).length (listsN n k 0).length) us :=
          { good := HF.out.1, ball := rfl, moves := gameN_moves l n k, small := game_small hn hk3, short := mvN_short hn hk3, some := game_some hk1
            closed := by
              have h_ := Reads.of_own hco
              unfold Nums
              show Reads wr 1 _ (clos l n).length _
              rw [clos_len]; exact h_
            taken := by
              have h_ := Reads.of_own htv
              unfold Nums
              rw [codesL_len]
              exact h_
            lists := gridl.readsG_of_own hM2 }
        have HFT := Lib.hid (findTimes_any (gameN l n k) l (mvG l n k) _ _ _ (.slice none 0 0) us wr hCR)
        have HCR := Lib.hid hCR
        have HBO := Lib.hid hbO
        have HTV := Lib.hid htv
        have HM := Lib.hid hM2
        have HCO := Lib.hid hco
        have HB := Lib.hid hB
        clear hbO htv hM hM2 hco hB hCR hlc
        go_wp2_with fail
        refine HFT.out.mono ?_
        rintro e w3 ⟨A5, c5, us5, rfl, o5, b5⟩
        have hb3 := HBO.out.below b5 HBO.out.lt
        obtain ⟨k0, k1, k2, k3, k4⟩ := blk5 hb3
        have z3 := hb3.frozen 3
        have hB3 := btrans HB.out b5
        have hr3 := HR1.out.below hB3 HR1.out.lt
        have hOR : w.heap.size + 1 ≠ O := by omega
        have HB4 : Hid (Blk (w3.setCell ⟨O, 3, none⟩ (.slice A5 (gridG (gameN l n k).P (gameN l n k).n (tms (gameN l n k))).length c5)) O 97 #[.slice Ac n cc, .slice At (listsN n k 0).length ct, .slice (some ⟨gm, 0, none⟩) (listsN n k 0).length (listsN n k 0).length, .slice A5 (gridG (gameN l n k).P (gameN l n k).n (tms (gameN l n k))).length c5, .slice A1 (listsN n k 0).length c1]) := by
          have h_ := hb3.set_ 3 (.slice A5 (gridG (gameN l n k).P (gameN l n k).n (tms (gameN l n k))).length c5)
          show Blk _ _ _ _
          simpa using h_
        obtain ⟨j0, j1, j2, j3, j4⟩ := blk5 HB4.out
        have hr4 := hr3.far (p := ⟨O, 3, none⟩) hOR (.slice A5 (gridG (gameN l n k).P (gameN l n k).n (tms (gameN l n k))).length c5)
        obtain ⟨r0, r1, r2, r3, r4⟩ := blk5 hr4
        have y0 := hr4.frozen 0
        have y1 := hr4.frozen 1
        have y2 := hr4.frozen 2
        have y3 := hr4.frozen 3
        have y4 := hr4.frozen 4
        have hE3 : Below w.heap.size w w3 := btrans HE1.out hB3
        have FN := Lib.hid (fin_hunt hb3 hr3 hOR (own_below HCO.out b5) (own_below HTV.out b5) (HM.out.below b5) o5 (HLO.out.below hB3) hE3 (by omega) (by omega))
        clear o5 b5 hb3 hr3 hr4 hB3 hE3
        go_wp2_with fail
        obtain ⟨w5, e5, hb5, hc5, ht5, hm5, hx5, hl5, hB5⟩ := FN.out
        rw [← e5]
        obtain ⟨q0, q1, q2, q3, q4⟩ := blk5 hb5
        have hs1 := HB.out.size
        have hs2 := HE1.out.size
        have hCR5 : ChaseR w5 (gameN l n k) l (mvG l n k) (.slice Ac n cc) (.slice At (listsN n k 0).length ct) (.slice (some ⟨gm, 0, none⟩) (listsN n k 0).length (listsN n k 0).length) us :=
          { HCR.out with
            closed := by
              have h_ := Reads.of_own hc5
              unfold Nums
              show Reads w5 1 _ (clos l n).length _
              rw [clos_len]; exact h_
            taken := by
              have h_ := Reads.of_own ht5
              unfold Nums
              rw [codesL_len]
              exact h_
            lists := gridl.readsG_of_own hm5 }
        refine bodyPost_ret (v := .tuple #[.agg #[.slice Ac n cc, .slice At (listsN n k 0).length ct, .slice (some ⟨gm, 0, none⟩) (listsN n k 0).length (listsN n k 0).length, .slice A5 (gridG (gameN l n k).P (gameN l n k).n (tms (gameN l n k))).length c5, .slice A1 (listsN n k 0).length c1], .bool true]) (by simp [results, Try.results86, go_sem, q0, q1, q2, q3, q4]) rfl ⟨_, _, _, _, _, us, us5, ul, rfl, hCR5, ⟨_, _, rfl⟩, hx5.base (by omega), ⟨A1, c1, by rw [HRL.out]⟩, hl5, hB5⟩
      | succ g2 =>
        have hlt : p < (listsN n k 0).length := by omega
        have hlt' : (p : Int) < ((listsN n k 0).length : Int) := by omega
        have hL0 := HLO.out.below hB
        obtain ⟨uu, gl, ol, hu, hAx, c0, hru⟩ := (gridl.readsG_of_own hL0).row (rowsN_at (cfg_at (n := n) (k := k) (p := p) hlt))
        subst hAx
        obtain ⟨Ar, cr, hAr, -⟩ := hru.form
        have hcl : (cfg n k p).length ≤ 3 := by rw [cfg_len hlt]; exact hk3
        have HBT := Lib.hid (fun (W : World) (hb : Below wr.heap.size wr W) => bitsOf_any _ (castL (cfg n k p)) W (hru.below hb) (by rw [castL_len]; omega) (fun x hx => by
          obtain ⟨y, hy, rfl⟩ := List.mem_map.1 hx
          have := cfg_lt (n := n) (k := k) (p := p) hlt y hy
          exact ⟨by omega, by omega⟩))
        rw [code_cfg (l := l) hlt] at HBT
        have HRUP : Hid (∀ W, Below w1.heap.size w1 W → Ints W uu (castL (cfg n k p))) := fun W hW => by
          obtain ⟨u5, g5, o5, hu5, e5, c5, h5⟩ := (gridl.readsG_of_own HLO.out).row (rowsN_at (cfg_at (n := n) (k := k) (p := p) hlt))
          have e6 : uu = u5 := by rw [hu] at hu5; injection hu5
          rw [e6]
          exact h5.below hW
        subst hAr
        have HTS := Lib.hid (tkK_succ l n k p)
        have HBO := Lib.hid hbO
        have HTV := Lib.hid htv
        have HM := Lib.hid hM
        have HCO := Lib.hid hco
        have HB := Lib.hid hB
        clear hL0 hu hru hbO htv hM hco hB
        generalize numOf ((gameN l n k).tk p) n = z at *
        have n1 := (HBO.out.alloc (.cells #[.int .u64 (z : Int)] 67)).cell 1
        have N1 : Hid (∀ j u, [Value.int .u64 (z : Int)][j]? = some u → (wr.alloc (.cells #[.int .u64 (z : Int)] 67)).drew.cell? ((⟨wr.heap.size, 0, none⟩ : Addr).add j) = some u) := cell_one_new wr (.int .u64 (z : Int)) 67
        have BA1 : Hid (Blk (wr.alloc (.cells #[.int .u64 (z : Int)] 67)).drew O 97 #[.slice Ac n cc, tv, .slice (some ⟨gm, 0, none⟩) (listsN n k 0).length (listsN n k 0).length, .slice none 0 0, .slice (some ⟨gl, ol, none⟩) (listsN n k 0).length c1]) := HBO.out.alloc _
        have F1 : Hid ((wr.alloc (.cells #[.int .u64 (z : Int)] 67)).drew.ownsRow wd.heap.size 67 1 tv p (cellsU (tkK l n k p))) := HTV.out.alloc _
        have HBT1 := Lib.hid (HBT.out wr.drew (Below.refl _ _).drew)
        have hp200 : p ≤ 200 := by omega
        go_wp2_with fail
        go_cut [45] (fun a wx => ∃ tv, Blk wx O 97 #[.slice Ac n cc, tv, .slice (some ⟨gm, 0, none⟩) (listsN n k 0).length (listsN n k 0).length, .slice none 0 0, .slice (some ⟨gl, ol, none⟩) (listsN n k 0).length c1] ∧ wx.ownsRow wd.heap.size 67 1 tv (p + 1) (cellsU (tkK l n k (p + 1))) ∧ OwnG wx w1.heap.size (.slice (some ⟨gm, 0, none⟩) (listsN n k 0).length (listsN n k 0).length) us (mvT l n k p []) ∧ wx.ownsRow w1.heap.size 67 1 (.slice Ac n cc) n (cellsU (clos l n)) ∧ Below w1.heap.size w1 wx ∧ wd.heap.size ≤ wx.heap.size)
        case first =>
          refine wp_region_held_drew (S := (fun w' : World => w'.cell? ⟨O, 1, none⟩ = some tv ∨ True)) (by kernel_rfl) (by (try dsimp only); simp [*]) (fun hHeld => ?_)
          change wpAnyH _ _ _ _ _ _ #[false, false, false, false, false, false, false, false, false, false] _ _
          refine wpAnyH_take (i := 0) (oi := ⟨some 37, _, _, _, _, _⟩) (v := ?_) rfl (by kernel_rfl) (by kernel_rfl) (by kernel_rfl) (fun _ _ _ h => h) (Or.inl ⟨by rfl, ?_⟩) (by assumption) ?_
          rotate_left
          · (intro w hSw; (try dsimp only at hSw); go_simp; (try (with_reducible rfl)))
          try simp only [Act.put, List.setIfInBounds_toArray, List.set_cons_zero, List.set_cons_succ]
          refine wpAnyH_take (i := 1) (oi := ⟨some 38, _, _, _, _, _⟩) (v := ?_) rfl (by kernel_rfl) (by kernel_rfl) (by kernel_rfl) (fun _ _ _ h => h) (Or.inl ⟨by rfl, ?_⟩) (by assumption) ?_
          rotate_left
          · (intro w hSw; (try dsimp only at hSw); go_simp; (try (with_reducible rfl)))
          try simp only [Act.put, List.setIfInBounds_toArray, List.set_cons_zero, List.set_cons_succ]
          refine wpAnyH_take (i := 3) (oi := ⟨some 40, _, _, _, _, _⟩) (v := ?_) rfl (by kernel_rfl) (by kernel_rfl) (by kernel_rfl) (fun _ _ _ h => h) (Or.inl ⟨by rfl, ?_⟩) (by assumption) ?_
          rotate_left
          · (intro w hSw; (try dsimp only at hSw); go_simp; (try (with_reducible rfl)))
          try simp only [Act.put, List.setIfInBounds_toArray, List.set_cons_zero, List.set_cons_succ]
          refine wpAnyH_ready (rs := [2, 4]) (by kernel_rfl) (by simp) ?_
          refine AllReadyH.cons (o := ⟨some 39, _, _, _, _, _⟩) rfl (fun K hK => ?_) (AllReadyH.cons (o := ⟨some 41, _, _, _, _, _⟩) rfl (fun K hK => ?_) AllReadyH.nil)
          focus
            go_simp
            refine hK.out _ _ (Or.inr trivial) (fun hHeld => ?_)
            clear hK K
            refine wpAnyH_ready (rs := [4]) (by kernel_rfl) (by simp) ?_
            refine AllReadyH.cons (o := ⟨some 41, _, _, _, _, _⟩) rfl (fun K hK => ?_) AllReadyH.nil
            go_simp
            go_at_call 118
            refine HBT1.out.mono ?_
            rintro e w' ⟨rfl, rfl⟩
            go_wp2_with fail
            refine hK.out _ _ (Or.inr trivial) (fun hHeld => ?_)
            clear hK K
            refine wpAnyH_ready (rs := [5]) (by kernel_rfl) (by simp) ?_
            refine AllReadyH.cons rfl (fun K hK => ?_) AllReadyH.nil
            go_simp
            refine hK.out _ _ (Or.inr trivial) (fun hHeld => ?_)
            clear hK K
            try simp only [List.setIfInBounds_toArray, List.set_cons_zero, List.set_cons_succ]
          rotate_left
          focus
            go_simp
            go_at_call 118
            refine HBT1.out.mono ?_
            rintro e w' ⟨rfl, rfl⟩
            go_wp2_with fail
            refine hK.out _ _ (Or.inr trivial) (fun hHeld => ?_)
            clear hK K
            refine wpAnyH_ready (rs := [2, 5]) (by kernel_rfl) (by simp) ?_
            refine AllReadyH.cons (o := ⟨some 39, _, _, _, _, _⟩) rfl (fun K hK => ?_) (AllReadyH.cons (o := ⟨some 42, _, _, _, _, _⟩) rfl (fun K hK => ?_) AllReadyH.nil)
            focus
              go_simp
              refine hK.out _ _ (Or.inr trivial) (fun hHeld => ?_)
              clear hK K
              refine wpAnyH_ready (rs := [5]) (by kernel_rfl) (by simp) ?_
              refine AllReadyH.cons rfl (fun K hK => ?_) AllReadyH.nil
              go_simp
              refine hK.out _ _ (Or.inr trivial) (fun hHeld => ?_)
              clear hK K
              try simp only [List.setIfInBounds_toArray, List.set_cons_zero, List.set_cons_succ]
            rotate_left
            focus
              go_simp
              refine hK.out _ _ (Or.inr trivial) (fun hHeld => ?_)
              clear hK K
              refine wpAnyH_ready (rs := [2]) (by kernel_rfl) (by simp) ?_
              refine AllReadyH.cons rfl (fun K hK => ?_) AllReadyH.nil
              go_simp
              refine hK.out _ _ (Or.inr trivial) (fun hHeld => ?_)
              clear hK K
              try simp only [List.setIfInBounds_toArray, List.set_cons_zero, List.set_cons_succ]
          all_goals
            refine wpAnyH_ready (rs := [6]) (by kernel_rfl) (by simp) ?_
            refine AllReadyH.cons rfl (fun K hK => ?_) AllReadyH.nil
            (refine step_append_lies _ rfl (.tmp 39) (.tmp 42) 63 rfl wd.heap.size 67 i0 (.int .u64 0) 1 8 Try.underlying63 hi hz0 hz1 hz2 rfl (by decide) tv p (cellsU (tkK l n k p)) rfl F1.out ⟨wr.heap.size, 0, none⟩ 1 1 [.int .u64 (z : Int)] rfl rfl N1.out (fun x hx => by simp at hx; subst hx; rfl) (by decide) (by unfold maxLen; omega) (by omega) (by simp; omega) (wr.heap.size + 1) (by simp) ?_; intro g5 cap5 w5 hown5 hgrow5 lies5 lt5; have hb5 := BA1.out.grown hgrow5 (fun e => own_ne HTV.out HBO.out (by decide) e.symm); obtain ⟨k0, k1, k2, k3, k4⟩ := blk5 hb5; have z1 := hb5.frozen 1)
            refine hK.out _ _ (Or.inr trivial) (fun hHeld => ?_)
            clear hK K
            try simp only [Act.put, List.setIfInBounds_toArray, List.set_cons_zero, List.set_cons_succ]
            refine wpAnyH_take (i := 7) (oi := ⟨some 44, _, _, _, _, _⟩) (v := ?_) rfl (by kernel_rfl) (by kernel_rfl) (by kernel_rfl) (fun _ _ _ h => h) (Or.inl ⟨by rfl, ?_⟩) (by assumption) ?_
            rotate_left
            · (intro w hSw; (try dsimp only at hSw); go_simp; (try (with_reducible rfl)))
            try simp only [Act.put, List.setIfInBounds_toArray, List.set_cons_zero, List.set_cons_succ]
            refine wpAnyH_take (i := 8) (oi := ⟨some 45, _, _, _, _, _⟩) (v := ?_) rfl (by kernel_rfl) (by kernel_rfl) (by kernel_rfl) (fun _ _ _ h => h) (Or.inl ⟨by rfl, ?_⟩) (by assumption) ?_
            rotate_left
            · (intro w hSw; (try dsimp only at hSw); go_simp; (try (with_reducible rfl)))
            try simp only [Act.put, List.setIfInBounds_toArray, List.set_cons_zero, List.set_cons_succ]
            refine wpAnyH_ready (rs := [9]) (by kernel_rfl) (by simp) ?_
            refine AllReadyH.cons rfl (fun K hK => ?_) AllReadyH.nil
            go_simp
            refine hK.out _ _ (Or.inr trivial) (fun hHeld => ?_)
            clear hK K
            refine wpAnyH_done (by kernel_rfl) ?_ _
            have hk5 := gset1 w5 O 1 (.slice (some ⟨g5, 0, none⟩) (p + 1) cap5)
            have HBS6 : Hid (Blk (w5.setCell ⟨O, 1, none⟩ (.slice (some ⟨g5, 0, none⟩) (p + 1) cap5)) O 97 #[.slice Ac n cc, .slice (some ⟨g5, 0, none⟩) (p + 1) cap5, .slice (some ⟨gm, 0, none⟩) (listsN n k 0).length (listsN n k 0).length, .slice none 0 0, .slice (some ⟨gl, ol, none⟩) (listsN n k 0).length c1]) := by
              have h_ := hb5.set_ 1 (.slice (some ⟨g5, 0, none⟩) (p + 1) cap5)
              show Blk _ _ _ _
              simpa using h_
            have HTV6 : Hid ((w5.setCell ⟨O, 1, none⟩ (.slice (some ⟨g5, 0, none⟩) (p + 1) cap5)).ownsRow wd.heap.size 67 1 (.slice (some ⟨g5, 0, none⟩) (p + 1) cap5) (p + 1) (cellsU (tkK l n k (p + 1)))) := by
              show World.ownsRow _ _ _ _ _ _ _
              rw [HTS.out, cellsU_app]
              exact hown5.kept hk5 (.inr (own_ne hown5 hb5 (by decide)))
            have HCA := HCO.out.alloc (.cells #[.int .u64 (z : Int)] 67)
            have HCW : w5.ownsRow w1.heap.size 67 1 (.slice Ac n cc) n (cellsU (clos l n)) := World.ownsRow.kept (w := (wr.alloc (.cells #[.int .u64 (z : Int)] 67)).drew) HCA hgrow5 (by
              cases hv : (Value.slice Ac n cc).ownBlock with
              | none => exact .inl rfl
              | some b => exact .inr (fun e => absurd (HCLT.out b hv) (by have h2 := (HTV.out.lt b e.symm).1; omega)))
            have HCO6 := Lib.hid (HCW.kept hk5 (.inr (own_ne HCW hb5 (by decide))))
            have HM6 : Hid (OwnG (w5.setCell ⟨O, 1, none⟩ (.slice (some ⟨g5, 0, none⟩) (p + 1) cap5)) w1.heap.size (.slice (some ⟨gm, 0, none⟩) (listsN n k 0).length (listsN n k 0).length) us (mvT l n k p [])) :=
              OwnG.kept_c (OwnG.kept_u (HM.out.below ((Below.refl wr.heap.size wr).alloc (Nat.le_refl _) (.cells #[.int .u64 (z : Int)] 67)).drew) F1.out hgrow5) hb5 (by decide) (by decide) hk5
            have HB6 : Hid (Below w1.heap.size w1 (w5.setCell ⟨O, 1, none⟩ (.slice (some ⟨g5, 0, none⟩) (p + 1) cap5))) :=
              (((HB.out.alloc HB.out.size (.cells #[.int .u64 (z : Int)] 67)).drew.grown hgrow5 (by have := HB.out.size; simp; omega) (fun j e => by have := (HTV.out.lt j e).1; omega)).setCell (p := ⟨O, 1, none⟩) hO1 (.slice (some ⟨g5, 0, none⟩) (p + 1) cap5))
            have hwc6 : wd.heap.size ≤ (w5.setCell ⟨O, 1, none⟩ (.slice (some ⟨g5, 0, none⟩) (p + 1) cap5)).heap.size := by
              have h_ := hgrow5.size
              simp [World.setCell] at h_ ⊢; omega
            clear hk5 hown5 hgrow5 lies5 hb5 k0 k1 k2 k3 k4 z1 hHeld HCA HCW
            go_wp2_with fail
            go_meet
            exact ⟨_, HBS6.out, HTV6.out, HM6.out, HCO6.out, HB6.out, hwc6⟩
        case rest =>
          obtain ⟨tv2, hbO, htv, hM, hco, hB, hwc2⟩ := hcut
          have HBO := Lib.hid hbO
          have HTV := Lib.hid htv
          have HM2 : Hid (OwnG _ w1.heap.size (.slice (some ⟨gm, 0, none⟩) (listsN n k 0).length (listsN n k 0).length) us (mvT l n k p (nw ((gameN l n k).mv p) 0))) := hM
          have HCO := Lib.hid hco
          have HB := Lib.hid hB
          clear x0 x1 x2 x3 x4 c0 HBT HBT1 BA1 F1 N1 n1 hbO htv hM hco hB
          go_wp2_with fail
          go_loopg [48] (listsN n k 0).length (fun g iv wr => ∃ (q : Nat) (us : List Value), q + g = (listsN n k 0).length ∧ iv = .int .i64 (q : Int) ∧ Blk wr O 97 #[.slice Ac n cc, tv2, .slice (some ⟨gm, 0, none⟩) (listsN n k 0).length (listsN n k 0).length, .slice none 0 0, .slice (some ⟨gl, ol, none⟩) (listsN n k 0).length c1] ∧
            wr.ownsRow wd.heap.size 67 1 tv2 (p + 1) (cellsU (tkK l n k (p + 1))) ∧ OwnG wr w1.heap.size (.slice (some ⟨gm, 0, none⟩) (listsN n k 0).length (listsN n k 0).length) us (mvT l n k p (nw ((gameN l n k).mv p) q)) ∧ wr.ownsRow w1.heap.size 67 1 (.slice Ac n cc) n (cellsU (clos l n)) ∧ Below w1.heap.size w1 wr ∧ wd.heap.size ≤ wr.heap.size)
          case atStart => exact ⟨0, us, by omega, rfl, HBO.out, HTV.out, HM2.out, HCO.out, HB.out, hwc2⟩
          case round =>
            clear HBO HTV HM2 HCO HB
            obtain ⟨q, us, hqg, rfl, hbO, htv, hM, hco, hB, hwc3⟩ := hrel
            obtain ⟨x0, x1, x2, x3, x4⟩ := blk5 hbO
            cases gk with
            | zero =>
              obtain rfl : q = (listsN n k 0).length := by omega
              have hMN : Hid (mvT l n k p (nw ((gameN l n k).mv p) (listsN n k 0).length) = mvT l n k (p + 1) []) := mvT_next l n k p
              rw [hMN.out] at hM
              have HBO := Lib.hid hbO
              have HTV := Lib.hid htv
              have HM := Lib.hid hM
              have HCO := Lib.hid hco
              have HB := Lib.hid hB
              clear hbO htv hM hco hB hMN
              go_wp2_with fail
              go_roundg g2
              case measure => omega
              case rel => exact ⟨p + 1, tv2, us, by omega, by go_num, HBO.out, HTV.out, HM.out, HCO.out, HB.out, hwc3⟩
            | succ g3 =>
              have hqt : q < (listsN n k 0).length := by omega
              have hqt' : (q : Int) < ((listsN n k 0).length : Int) := by omega
              have hL1 := HLO.out.below hB
              obtain ⟨uu, gl2, ol2, hu, hAx, c0, hru⟩ := (gridl.readsG_of_own hL1).row (rowsN_at (cfg_at (n := n) (k := k) (p := q) hqt))
              obtain ⟨rfl, rfl⟩ : gl = gl2 ∧ ol = ol2 := by simpa using hAx
              clear hAx
              obtain ⟨Aq, cq, rfl, -⟩ := hru.form
              have HCN := Lib.hid (fun (W : World) (hb : Below wr.heap.size wr W) => canMove_any n l (cfg n k q) (.slice Ac n cc) (.slice Aq (castL (cfg n k q)).length cq) HF.out.1 hn (by rw [cfg_len hqt]; exact hk3) (cfg_lt hqt) (cfg n k p) (cfg_lt hlt) (by rw [cfg_len hlt]; exact hk3) (.slice Ar (castL (cfg n k p)).length cr) 0 W (by omega)
                (by have h_ := Reads.of_own (own_below hco hb); unfold Nums; rw [clos_len]; exact h_) (HRUP.out W (btrans hB hb)) (hru.below hb))
              have HRQ := Lib.hid hru
              have HBO := Lib.hid hbO
              have HTV := Lib.hid htv
              have HM := Lib.hid hM
              have HCO := Lib.hid hco
              have HB := Lib.hid hB
              clear hL1 hu hru hbO htv hM hco hB
              have hMQ : (gameN l n k).mv p q = canN (ballB l) (cfg n k p) (cfg n k q) 0 := rfl
              cases hcan : canN (ballB l) (cfg n k p) (cfg n k q) 0 with
              | false =>
                have HNO : Hid (nw ((gameN l n k).mv p) (q + 1) = nw ((gameN l n k).mv p) q) := nw_no (hMQ.trans hcan)
                rw [hcan] at HCN
                clear hMQ hcan
                go_wp2_with fail
                refine (HCN.out wr (Below.refl _ _)).mono ?_
                rintro e w5 ⟨rfl, m, rfl⟩
                have D5 : Below wr.heap.size wr (wr.drewN m) := below_drewN (Below.refl _ _) m
                have hb5 := HBO.out.below D5 HBO.out.lt
                have ht5 := own_below HTV.out D5
                have hm5 := HM.out.below D5
                have hc5 := own_below HCO.out D5
                have hB5 := btrans HB.out D5
                have hs5 := D5.size
                clear D5
                go_wp2_with fail
                go_roundg g3
                case measure => omega
                case rel => exact ⟨q + 1, us, by omega, by go_num, hb5, ht5, by rw [HNO.out]; exact hm5, hc5, hB5, by omega⟩
              | true =>
                have HNY : Hid (nw ((gameN l n k).mv p) (q + 1) = nw ((gameN l n k).mv p) q ++ [(q : Int)]) := nw_yes (hMQ.trans hcan)
                rw [hcan] at HCN
                clear hMQ hcan
                go_wp2_with fail
                refine (HCN.out wr (Below.refl _ _)).mono ?_
                rintro e w5 ⟨rfl, m, h5⟩
                have D5 : Below wr.heap.size wr w5 := by rw [h5]; exact below_drewN (Below.refl _ _) m
                have HBO5 := Lib.hid (HBO.out.below D5 HBO.out.lt)
                have HTV5 := Lib.hid (own_below HTV.out D5)
                have HM5 := Lib.hid (HM.out.below D5)
                have HCO5 := Lib.hid (own_below HCO.out D5)
                have HB5 := Lib.hid (btrans HB.out D5)
                have hs5 := D5.size
                have hs6 := HB5.out.size
                clear HBO HTV HM HCO HB HCN HRQ x0 x1 x2 x3 x4 c0 h5 D5
                obtain ⟨x0, x1, x2, x3, x4⟩ := blk5 HBO5.out
                have hnl := nw_len ((gameN l n k).mv p) q
                generalize nw ((gameN l n k).mv p) q = r at *
                obtain ⟨u, hu5, ou⟩ := HM5.out.row (mvT_at (l := l) (n := n) (k := k) (p := p) (q := r) hlt)
                obtain ⟨Au, cu, rfl⟩ := own_form ou
                have hG5 : w5.ownsRow w1.heap.size 32 1 (.slice (some ⟨gm, 0, none⟩) (listsN n k 0).length (listsN n k 0).length) (listsN n k 0).length us := by
                  have h_ := HM5.out.1
                  rw [mvT_len] at h_
                  exact h_
                have f0 := own_cell hG5 hu5
                have n2 := (HBO5.out.alloc (.cells #[.int .i64 (q : Int)] 3)).cell 2
                have fa := own_cell (hG5.alloc (.cells #[.int .i64 (q : Int)] 3)) hu5
                have OU := Lib.hid ou
                have HG5 := Lib.hid hG5
                have HU5 := Lib.hid hu5
                have N1 : Hid (∀ j u, [Value.int .i64 (q : Int)][j]? = some u → (w5.alloc (.cells #[.int .i64 (q : Int)] 3)).drew.cell? ((⟨w5.heap.size, 0, none⟩ : Addr).add j) = some u) := cell_one_new w5 (.int .i64 (q : Int)) 3
                have BA5 : Hid (Blk (w5.alloc (.cells #[.int .i64 (q : Int)] 3)).drew O 97 #[.slice Ac n cc, tv2, .slice (some ⟨gm, 0, none⟩) (listsN n k 0).length (listsN n k 0).length, .slice none 0 0, .slice (some ⟨gl, ol, none⟩) (listsN n k 0).length c1]) := HBO5.out.alloc _
                have TA5 : Hid ((w5.alloc (.cells #[.int .i64 (q : Int)] 3)).drew.ownsRow wd.heap.size 67 1 tv2 (p + 1) (cellsU (tkK l n k (p + 1)))) := HTV5.out.alloc _
                have CA5 : Hid ((w5.alloc (.cells #[.int .i64 (q : Int)] 3)).drew.ownsRow w1.heap.size 67 1 (.slice Ac n cc) n (cellsU (clos l n))) := HCO5.out.alloc _
                have GA5 : Hid ((w5.alloc (.cells #[.int .i64 (q : Int)] 3)).drew.ownsRow w1.heap.size 32 1 (.slice (some ⟨gm, 0, none⟩) (listsN n k 0).length (listsN n k 0).length) (listsN n k 0).length us) := hG5.alloc _
                have OA5 : Hid ((w5.alloc (.cells #[.int .i64 (q : Int)] 3)).drew.ownsRow w1.heap.size 3 1 (.slice Au r.length cu) r.length (cellsI r)) := ou.alloc _
                clear ou hG5 hu5
                go_wp2_with fail
                refine wp_region_held_drew (S := (fun w' : World => w'.cell? ⟨O, 2, none⟩ = some (.slice (some ⟨gm, 0, none⟩) (listsN n k 0).length (listsN n k 0).length))) (by kernel_rfl) (by (try dsimp only); simp [*]) (fun hHeld => ?_)
                change wpAnyH _ _ _ _ _ _ #[false, false, false, false, false, false, false, false, false, false, false, false, false, false, false] _ _
                refine wpAnyH_take (i := 0) (oi := ⟨some 59, _, _, _, _, _⟩) (v := ?_) rfl (by kernel_rfl) (by kernel_rfl) (by kernel_rfl) (fun _ _ _ h => h) (Or.inl ⟨by rfl, ?_⟩) (by assumption) ?_
                rotate_left
                · (intro w hSw; (try dsimp only at hSw); go_simp; (try (with_reducible rfl)))
                try simp only [Act.put, List.setIfInBounds_toArray, List.set_cons_zero, List.set_cons_succ]
                refine wpAnyH_take (i := 1) (oi := ⟨some 60, _, _, _, _, _⟩) (v := ?_) rfl (by kernel_rfl) (by kernel_rfl) (by kernel_rfl) (fun _ _ _ h => h) (Or.inl ⟨by rfl, ?_⟩) (by assumption) ?_
                rotate_left
                · (intro w hSw; (try dsimp only at hSw); go_simp; (try (with_reducible rfl)))
                try simp only [Act.put, List.setIfInBounds_toArray, List.set_cons_zero, List.set_cons_succ]
                refine wpAnyH_take (i := 2) (oi := ⟨some 61, _, _, _, _, _⟩) (v := ?_) rfl (by kernel_rfl) (by kernel_rfl) (by kernel_rfl) (fun _ _ _ h => h) (Or.inl ⟨by rfl, ?_⟩) (by assumption) ?_
                rotate_left
                · (intro w hSw; (try dsimp only at hSw); go_simp; (try (with_reducible rfl)))
                try simp only [Act.put, List.setIfInBounds_toArray, List.set_cons_zero, List.set_cons_succ]
                refine wpAnyH_take (i := 3) (oi := ⟨some 62, _, _, _, _, _⟩) (v := ?_) rfl (by kernel_rfl) (by kernel_rfl) (by kernel_rfl) (fun _ _ _ h => h) (Or.inl ⟨by rfl, ?_⟩) (by assumption) ?_
                rotate_left
                · (intro w hSw; (try dsimp only at hSw); go_simp; (try (with_reducible rfl)))
                try simp only [Act.put, List.setIfInBounds_toArray, List.set_cons_zero, List.set_cons_succ]
                refine wpAnyH_take (i := 4) (oi := ⟨some 63, _, _, _, _, _⟩) (v := ?_) rfl (by kernel_rfl) (by kernel_rfl) (by kernel_rfl) (fun _ _ _ h => h) (Or.inl ⟨by rfl, ?_⟩) (by assumption) ?_
                rotate_left
                · (intro w hSw; (try dsimp only at hSw); go_simp; (try (with_reducible rfl)))
                try simp only [Act.put, List.setIfInBounds_toArray, List.set_cons_zero, List.set_cons_succ]
                refine wpAnyH_take (i := 5) (oi := ⟨some 64, _, _, _, _, _⟩) (v := ?_) rfl (by kernel_rfl) (by kernel_rfl) (by kernel_rfl) (fun _ _ _ h => h) (Or.inl ⟨by rfl, ?_⟩) (by assumption) ?_
                rotate_left
                · (intro w hSw; (try dsimp only at hSw); go_simp; (try (with_reducible rfl)))
                try simp only [Act.put, List.setIfInBounds_toArray, List.set_cons_zero, List.set_cons_succ]
                refine wpAnyH_take (i := 6) (oi := ⟨some 65, _, _, _, _, _⟩) (v := ?_) rfl (by kernel_rfl) (by kernel_rfl) (by kernel_rfl) (fun _ _ _ h => h) (Or.inl ⟨by rfl, ?_⟩) (by assumption) ?_
                rotate_left
                · (intro w hSw; (try dsimp only at hSw); go_simp; (try (with_reducible rfl)))
                try simp only [Act.put, List.setIfInBounds_toArray, List.set_cons_zero, List.set_cons_succ]
                refine wpAnyH_take (i := 7) (oi := ⟨some 66, _, _, _, _, _⟩) (v := ?_) rfl (by kernel_rfl) (by kernel_rfl) (by kernel_rfl) (fun _ _ _ h => h) (Or.inl ⟨by rfl, ?_⟩) (by assumption) ?_
                rotate_left
                · (intro w hSw; (try dsimp only at hSw); go_simp; (try (with_reducible rfl)))
                try simp only [Act.put, List.setIfInBounds_toArray, List.set_cons_zero, List.set_cons_succ]
                refine wpAnyH_take (i := 8) (oi := ⟨some 67, _, _, _, _, _⟩) (v := ?_) rfl (by kernel_rfl) (by kernel_rfl) (by kernel_rfl) (fun _ _ _ h => h) (Or.inl ⟨by rfl, ?_⟩) (by assumption) ?_
                rotate_left
                · (intro w hSw; (try dsimp only at hSw); go_simp; (try (with_reducible rfl)))
                try simp only [Act.put, List.setIfInBounds_toArray, List.set_cons_zero, List.set_cons_succ]
                refine wpAnyH_take (i := 10) (oi := ⟨some 69, _, _, _, _, _⟩) (v := ?_) rfl (by kernel_rfl) (by kernel_rfl) (by kernel_rfl) (fun _ _ _ h => h) (Or.inl ⟨by rfl, ?_⟩) (by assumption) ?_
                rotate_left
                · (intro w hSw; (try dsimp only at hSw); go_simp; (try (with_reducible rfl)))
                try simp only [Act.put, List.setIfInBounds_toArray, List.set_cons_zero, List.set_cons_succ]
                refine wpAnyH_ready (rs := [9, 11]) (by kernel_rfl) (by simp) ?_
                refine AllReadyH.cons (o := ⟨some 68, _, _, _, _, _⟩) rfl (fun K hK => ?_) (AllReadyH.cons (o := ⟨some 70, _, _, _, _, _⟩) rfl (fun K hK => ?_) AllReadyH.nil)
                focus
                  go_simp
                  refine hK.out _ _ x2 (fun hHeld => ?_)
                  clear hK K
                  refine wpAnyH_ready (rs := [11]) (by kernel_rfl) (by simp) ?_
                  refine AllReadyH.cons rfl (fun K hK => ?_) AllReadyH.nil
                  go_simp
                  refine hK.out _ _ (n2) (fun hHeld => ?_)
                  clear hK K
                  try simp only [List.setIfInBounds_toArray, List.set_cons_zero, List.set_cons_succ]
                rotate_left
                focus
                  go_simp
                  refine hK.out _ _ n2 (fun hHeld => ?_)
                  clear hK K
                  refine wpAnyH_ready (rs := [9]) (by kernel_rfl) (by simp) ?_
                  refine AllReadyH.cons rfl (fun K hK => ?_) AllReadyH.nil
                  go_simp
                  refine hK.out _ _ (n2) (fun hHeld => ?_)
                  clear hK K
                  try simp only [List.setIfInBounds_toArray, List.set_cons_zero, List.set_cons_succ]
                have hr200 : r.length ≤ 300 := by have := HPP.out; omega
                all_goals
                  refine wpAnyH_ready (rs := [12]) (by kernel_rfl) (by simp) ?_
                  refine AllReadyH.cons rfl (fun K hK => ?_) AllReadyH.nil
                  (refine step_append_lies _ rfl (.tmp 68) (.tmp 70) 32 rfl w1.heap.size 3 i2 (.int .i64 0) 1 8 Try.underlying32 hi2 hx0 hx1 hx2 rfl (by decide) (.slice Au r.length cu) r.length (cellsI r) rfl OA5.out ⟨w5.heap.size, 0, none⟩ 1 1 [.int .i64 (q : Int)] rfl rfl N1.out (fun x hx => by simp at hx; subst hx; rfl) (by decide) (by unfold maxLen; omega) (by omega) (by simp; omega) (w5.heap.size + 1) (by simp) ?_; intro g8 cap8 w8 hown8 hgrow8 lies8 lt8; have hb8 := BA5.out.grown hgrow8 (fun e => own_ne OU.out HBO5.out (by decide) e.symm); obtain ⟨k0, k1, k2, k3, k4⟩ := blk5 hb8; have hG8 := own_kept GA5.out OA5.out (by decide) hgrow8; have f8 := own_cell hG8 HU5.out; have z8 := hG8.frozenAt p; have hgO : gm ≠ O := (fun e => own_ne hG8 hb8 (by decide) (by rw [e]; rfl)); have b9 := hb8.far (p := ⟨gm, p, none⟩) (fun e => hgO e.symm) (.slice (some ⟨g8, 0, none⟩) (r.length + 1) cap8); have k9 := b9.cell 2)
                  refine hK.out _ _ (k2) (fun hHeld => ?_)
                  clear hK K
                  try simp only [Act.put, List.setIfInBounds_toArray, List.set_cons_zero, List.set_cons_succ]
                  refine wpAnyH_take (i := 13) (oi := ⟨some 72, _, _, _, _, _⟩) (v := ?_) rfl (by kernel_rfl) (by kernel_rfl) (by kernel_rfl) (fun _ _ _ h => h) (Or.inl ⟨by rfl, ?_⟩) (by assumption) ?_
                  rotate_left
                  · (intro w hSw; (try dsimp only at hSw); go_simp; (try (with_reducible rfl)))
                  try simp only [Act.put, List.setIfInBounds_toArray, List.set_cons_zero, List.set_cons_succ]
                  refine wpAnyH_ready (rs := [14]) (by kernel_rfl) (by simp) ?_
                  refine AllReadyH.cons rfl (fun K hK => ?_) AllReadyH.nil
                  go_simp
                  refine hK.out _ _ (k9) (fun hHeld => ?_)
                  clear hK K
                  refine wpAnyH_done (by kernel_rfl) ?_ _
                  have HM9 : Hid (OwnG (w8.setCell ⟨gm, p, none⟩ (.slice (some ⟨g8, 0, none⟩) (r.length + 1) cap8)) w1.heap.size (.slice (some ⟨gm, 0, none⟩) (listsN n k 0).length (listsN n k 0).length) (us.set p (.slice (some ⟨g8, 0, none⟩) (r.length + 1) cap8)) (mvT l n k p (nw ((gameN l n k).mv p) (q + 1)))) := by
                    have h1 := HM5.out.below ((Below.refl w5.heap.size w5).alloc (Nat.le_refl _) (.cells #[.int .i64 (q : Int)] 3)).drew
                    have h2 : OwnG (w5.alloc (.cells #[.int .i64 (q : Int)] 3)).drew w1.heap.size (.slice (some ⟨gm, 0, none⟩) (mvT l n k p r).length (listsN n k 0).length) us (mvT l n k p r) := by rw [mvT_len]; exact h1
                    have h3 := OwnG.grow (r2 := r ++ [(q : Int)]) h2 HU5.out (mvT_at hlt) (by rw [cellsI_app, List.length_append]; exact hown8) hgrow8 (lies8.imp id (fun e => by rw [e]; simp))
                    rw [mvT_len, mvT_set hlt, ← HNY.out] at h3
                    exact h3
                  have HTV9 := Lib.hid (own_set (j := p) (u := .slice (some ⟨g8, 0, none⟩) (r.length + 1) cap8) (own_kept TA5.out OA5.out (by decide) hgrow8) hG8 (by decide))
                  have HCO9 := Lib.hid (own_set (j := p) (u := .slice (some ⟨g8, 0, none⟩) (r.length + 1) cap8) (own_kept CA5.out OA5.out (by decide) hgrow8) hG8 (by decide))
                  have HB9 := Lib.hid ((((HB5.out.alloc hs6 (.cells #[.int .i64 (q : Int)] 3)).drew.grown hgrow8 (by simp; omega) (fun j e => (OU.out.lt j e).1)).setCell (p := ⟨gm, p, none⟩) (hG8.lt gm rfl).1 (.slice (some ⟨g8, 0, none⟩) (r.length + 1) cap8)))
                  have HBO9 := Lib.hid b9
                  have hwd9 : wd.heap.size ≤ (w8.setCell ⟨gm, p, none⟩ (.slice (some ⟨g8, 0, none⟩) (r.length + 1) cap8)).heap.size := by
                    have h_ := hgrow8.size
                    simp [World.setCell] at h_ ⊢; omega
                  clear hown8 hgrow8 lies8 hb8 k0 k1 k2 k3 k4 hG8 f8 z8 b9 k9 hHeld
                  go_wp2_with fail
                  go_roundg g3
                  case measure => omega
                  case rel => exact ⟨q + 1, _, by omega, by go_num, HBO9.out, HTV9.out, HM9.out, HCO9.out, HB9.out, hwd9⟩
end Go.Proofs.Ytjcnngnahijceaa.lists

/- The game of some cops: the contract of the program's huntIn where it fails. -/
namespace Go.Proofs.Ytjcnngnahijceaa.lists
open Go.RowKit P2 words edges ints good adjs fns sets rets apps gridr grid trip covs bitsI times mids filled cops
set_option linter.unusedVariables false

set_option maxHeartbeats 1000000 in
set_option maxRecDepth 100000 in
theorem huntIn_no (s k : Int) (v : Value) (l : List Ed) (w : World) (h : Edges w v l) (hl : l.length ≤ 1048576) (hf : ¬ FieldP s l k) :
    Calls Try.prog 86 #[.agg #[.int .i64 s, v], .int .i64 k] w fun e w' => e = .returned (.tuple #[.agg #[.slice none 0 0, .slice none 0 0, .slice none 0 0, .slice none 0 0, .slice none 0 0], .bool false]) ∧ Below w.heap.size w w' := by
  obtain ⟨A, c, rfl, -⟩ := h.form
  have HF := Lib.hid hf
  have b0 : Below w.heap.size w ((w.alloc (.cells #[.int .i64 s, .slice A l.length c] 28)).alloc (.cells #[.slice none 0 0, .slice none 0 0, .slice none 0 0, .slice none 0 0, .slice none 0 0] 97)) := ((Below.refl _ _).alloc (Nat.le_refl _) _).alloc (by simp) _
  have g0 := (Blk.new w 28 #[.int .i64 s, .slice A l.length c]).alloc (.cells #[.slice none 0 0, .slice none 0 0, .slice none 0 0, .slice none 0 0, .slice none 0 0] 97)
  have r0 := Blk.new (w.alloc (.cells #[.int .i64 s, .slice A l.length c] 28)) 97 #[.slice none 0 0, .slice none 0 0, .slice none 0 0, .slice none 0 0, .slice none 0 0]
  rw [World.size_alloc] at r0
  obtain ⟨p0, p1, -, -⟩ := g0.two
  have HCL := Lib.hid (implCopL_any s k (.slice A l.length c) l _ (h.below b0) hl)
  clear h hf
  go_enter Try.func86, Try.ntmps86
  go_wp2_with fail
  refine HCL.out.mono ?_
  rintro e w1 ⟨A1, c1, ul, rfl, o1, b1⟩
  rw [okG_no HF.out]
  have hr1 := r0.below b1 r0.lt
  have hB1 := btrans b0 b1
  obtain ⟨r0', r1', r2', r3', r4'⟩ := blk5 hr1
  have z0 := hr1.frozen 0
  have z1 := hr1.frozen 1
  have z2 := hr1.frozen 2
  have z3 := hr1.frozen 3
  have z4 := hr1.frozen 4
  have h5 := ((((hr1.set_ 0 (.slice none 0 0)).set_ 1 (.slice none 0 0)).set_ 2 (.slice none 0 0)).set_ 3 (.slice none 0 0)).set_ 4 (.slice none 0 0)
  have HQ : Hid (Blk (((((w1.setCell ⟨w.heap.size + 1, 0, none⟩ (.slice none 0 0)).setCell ⟨w.heap.size + 1, 1, none⟩ (.slice none 0 0)).setCell ⟨w.heap.size + 1, 2, none⟩ (.slice none 0 0)).setCell ⟨w.heap.size + 1, 3, none⟩ (.slice none 0 0)).setCell ⟨w.heap.size + 1, 4, none⟩ (.slice none 0 0)) (w.heap.size + 1) 97 #[.slice none 0 0, .slice none 0 0, .slice none 0 0, .slice none 0 0, .slice none 0 0]) := by
    show Blk _ _ _ _
    simpa using h5
  have HBB : Hid (Below w.heap.size w (((((w1.setCell ⟨w.heap.size + 1, 0, none⟩ (.slice none 0 0)).setCell ⟨w.heap.size + 1, 1, none⟩ (.slice none 0 0)).setCell ⟨w.heap.size + 1, 2, none⟩ (.slice none 0 0)).setCell ⟨w.heap.size + 1, 3, none⟩ (.slice none 0 0)).setCell ⟨w.heap.size + 1, 4, none⟩ (.slice none 0 0))) :=
    ((((hB1.setCell (Nat.le_succ _) _).setCell (Nat.le_succ _) _).setCell (Nat.le_succ _) _).setCell (Nat.le_succ _) _).setCell (Nat.le_succ _) _
  clear HCL b0 g0 r0 b1 o1 h5 hr1 hB1 p0 p1
  go_wp2_with fail
  obtain ⟨q0, q1, q2, q3, q4⟩ := blk5 HQ.out
  exact bodyPost_ret (v := .tuple #[.agg #[.slice none 0 0, .slice none 0 0, .slice none 0 0, .slice none 0 0, .slice none 0 0], .bool false]) (by simp [results, Try.results86, go_sem, q0, q1, q2, q3, q4]) rfl ⟨rfl, HBB.out⟩
end Go.Proofs.Ytjcnngnahijceaa.lists
