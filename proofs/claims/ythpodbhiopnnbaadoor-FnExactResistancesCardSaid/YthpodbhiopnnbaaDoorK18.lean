/- The contracts of the model's l4Less over lists of the same length, and of LeastSpreading. -/
import Derived.Handy
import Derived.Test.YthpodbhiopnnbaaDoorK17
import Derived.Test.YthpodbhiopnnbaaDoorK09
import Derived.Deep.DeepCutAuto
import Derived.Deep.RegionHeld3
import Derived.Deep.QuietTactic
import Derived.Test.YthpodbhiopnnbaaDoorK01
import Derived.Test.YthpodbhiopnnbaaDoorRows
import Derived.Lib.LaidTab
import Derived.Stop.LaidErr
import Derived.Shelf.Vars
import Derived.Test.YthpodbhiopnnbaaDoorProg
import Derived.Deep.Slices
import Derived.Lib.SmallJoins
import Derived.OpenShut
namespace Go.Proofs.YthpodbhiopnnbaaDoor.ups
open Go.RowKit P2 words edges ints good adjs fns sets rets covs bags balls bitsI func
set_option linter.unusedVariables false

theorem dropI {L : List Int} {i : Nat} {x : Int} (h : L[i]? = some x) : L.drop i = x :: L.drop (i + 1) := by
  obtain ⟨h1, h2⟩ := List.getElem?_eq_some_iff.1 h
  rw [List.drop_eq_getElem_cons h1, h2]
theorem lexI_same {a b : List Int} {i : Nat} {x : Int} (ha : a[i]? = some x) (hb : b[i]? = some x) : lexI (a.drop i) (b.drop i) = lexI (a.drop (i + 1)) (b.drop (i + 1)) := by
  rw [dropI ha, dropI hb]; show (if x = x then _ else _) = _; rw [if_pos rfl]
theorem lexI_diff {a b : List Int} {i : Nat} {x y : Int} (ha : a[i]? = some x) (hb : b[i]? = some y) (h : x ≠ y) : lexI (a.drop i) (b.drop i) = decide (x < y) := by
  rw [dropI ha, dropI hb]; show (if x = y then _ else _) = _; rw [if_neg h]
theorem lexI_end {a b : List Int} : lexI (a.drop a.length) b = false := by
  rw [List.drop_length]; cases b <;> rfl
theorem full_len {n : Nat} {l : List Ed} {r c : Nat} (hn : n ≤ 8) (h : spN n l r c < 2 ^ n) : fullB n l r c = decide (¬ (nw (bitB (spN n l r c)) n).length < n) := by
  have h8 := Nat.lt_of_lt_of_le h (pow_le hn)
  have h1 := ones_full ⟨n, by omega⟩ ⟨spN n l r c, h8⟩ h
  have h2 := ones_topN hn h
  rw [nd_bits hn h, nd_len]
  unfold fullB
  simp only at h1
  rw [Bool.eq_iff_iff, beq_iff_eq, decide_eq_true_iff, ← h1]
  omega
theorem lsp_len (s : Int) (l : List Ed) (r : Int) : (inG (NumOk s l r) (ndN (lspN s.toNat l r.toNat))).length ≤ 1048576 := inG_len fun _ => by
  unfold ndN
  have := nw_len (bitB (lspN s.toNat l r.toNat)) 8
  omega
end Go.Proofs.YthpodbhiopnnbaaDoor.ups

/- Guards: the contracts of the model's l10Dominates, IsDominating and LeastDominating. -/
namespace Go.Proofs.YthpodbhiopnnbaaDoor.ups
open Go.RowKit P2 words edges ints good adjs fns sets rets covs bags balls bitsI func
set_option linter.unusedVariables false

theorem rises_set {n : Nat} {l : List Ed} {xs : List Int} (hg : P2.Good (n : Int) l) : RisesIn xs 0 ((n : Int) - 1) ↔ SetOk (n : Int) l xs :=
  ⟨fun h => ⟨hg, fun x hx => by have := h.1 x hx; omega, h.2⟩, fun h => ⟨fun x hx => by have := h.2.1 x hx; omega, h.2.2⟩⟩
end Go.Proofs.YthpodbhiopnnbaaDoor.ups

/- Guards: the contracts of the program's and the model's CanMoveGuards. -/
namespace Go.Proofs.YthpodbhiopnnbaaDoor.ups
open Go.RowKit P2 words edges ints good adjs fns sets rets covs bags bitsI func lists least
set_option linter.unusedVariables false

def MvOk (s : Int) (l : List Ed) (xs ys : List Int) : Prop := SetOk s l xs ∧ SetOk s l ys ∧ xs.length = ys.length
def MvP (s : Int) (l : List Ed) (all : Bool) (xs ys : List Int) : Prop := MvOk s l xs ys ∧ mvB l all (codeL xs) (codeL ys) = true
theorem mvP_is {s : Int} {l : List Ed} {all : Bool} {xs ys : List Int} (h : MvOk s l xs ys) : okG (MvP s l all xs ys) = mvB l all (codeL xs) (codeL ys) := by
  rw [Bool.eq_iff_iff, okG_iff]
  exact ⟨fun h => h.2, fun h2 => ⟨h, h2⟩⟩
theorem set_nd {n : Nat} {l : List Ed} {xs : List Int} (hn : n ≤ 8) (h : SetOk (n : Int) l xs) : xs = ndN (codeL xs) := by
  have h1 := set_code h.2.2 h.2.1
  rw [nd_bits hn (code_set h)] at h1
  exact h1
theorem set_onesM {n : Nat} {l : List Ed} {xs : List Int} (hn : n ≤ 8) (h : SetOk (n : Int) l xs) : onesN (codeL xs) = xs.length := by
  have h1 := congrArg List.length (set_nd hn h)
  rw [nd_len] at h1
  exact h1.symm
theorem beq_castG (a b : Nat) : (((a : Nat) : Int) == ((b : Nat) : Int)) = (a == b) := by
  rw [Bool.eq_iff_iff, beq_iff_eq, beq_iff_eq]; omega
set_option maxHeartbeats 4000000 in
set_option maxRecDepth 100000 in
theorem implCmg_any (s : Int) (all : Bool) (v u1 u2 : Value) (l : List Ed) (xs ys : List Int) (w : World) (hE : Env w) (h : Edges w v l) (hl : l.length ≤ 1048576) (hu1 : Ints w u1 xs) (hxl : xs.length ≤ 1048576) (hu2 : Ints w u2 ys) (hyl : ys.length ≤ 1048576) :
    Calls Tryd.prog 13 #[.agg #[.int .i64 s, v], u1, u2, .bool all] w fun e w' => e = .returned (.tuple #[.bool (okG (MvP s l all xs ys)), .bool (okG (MvOk s l xs ys))]) ∧ Below w.heap.size w w' := by
  obtain ⟨A, c, rfl, -⟩ := h.form
  obtain ⟨A1, c1, rfl, -⟩ := hu1.form
  obtain ⟨A2, c2, rfl, -⟩ := hu2.form
  have H := Lib.hid h
  have HU1 := Lib.hid hu1
  have HU2 := Lib.hid hu2
  have HEN := Lib.hid hE
  have b0 : Below w.heap.size w (w.alloc (.cells #[.int .i64 s, .slice A l.length c] 29)) := (Below.refl _ _).alloc (Nat.le_refl _) _
  have HG0 := Lib.hid (Blk.new w 29 #[.int .i64 s, .slice A l.length c])
  obtain ⟨p0, p1, -, -⟩ := HG0.out.two
  have HS1 := Lib.hid (hasSet_any s (.slice A l.length c) (.slice A1 xs.length c1) l xs _ (h.below b0) hl (hu1.below b0) hxl)
  have HS2 := Lib.hid (fun (W : World) (hW : Below w.heap.size w W) => hasSet_any s (.slice A l.length c) (.slice A2 ys.length c2) l ys W (H.out.below hW) hl (HU2.out.below hW) hyl)
  have HB0 := Lib.hid b0
  clear h hu1 hu2 b0 hE
  by_cases hlen : xs.length = ys.length
  · have hq0 : ((xs.length : Int) != (ys.length : Int)) = false := by rw [hlen]; simp
    have hq1 : ((xs.length : Int) == (ys.length : Int)) = true := by rw [hlen]; simp
    have hq2 : (xs.length == ys.length) = true := by rw [hlen]; simp
    by_cases h1 : SetOk s l xs
    · rw [okG_yes h1] at HS1
      by_cases h2 : SetOk s l ys
      · rw [okG_yes h2] at HS2
        have hok : MvOk s l xs ys := ⟨h1, h2, hlen⟩
        have HV : Hid (okG (MvP s l all xs ys) = mvB l all (codeL xs) (codeL ys)) := mvP_is hok
        have HV2 : Hid (okG (MvOk s l xs ys) = true) := okG_yes hok
        have h0 := h1.1.1
        have h8 := h1.1.2.1
        obtain ⟨n, rfl⟩ : ∃ n : Nat, s = (n : Int) := ⟨s.toNat, by omega⟩
        have hn : n ≤ 8 := by omega
        have HGD := Lib.hid h1.1
        have HBO1 := Lib.hid (fun (W : World) (hW : Below w.heap.size w W) => bitsOf_any (.slice A1 xs.length c1) xs W (HU1.out.below hW) hxl (fun x hx => by have := h1.2.1 x hx; omega))
        have HBO2 := Lib.hid (fun (W : World) (hW : Below w.heap.size w W) => bitsOf_any (.slice A2 ys.length c2) ys W (HU2.out.below hW) hyl (fun x hx => by have := h2.2.1 x hx; omega))
        have hmv := rule_mv h1.1 hn all
        have hent := hmv.enter
        have HMV := Lib.hid (fun (W : World) (v : Value) (hW : Below w.heap.size w W) (hv : Nums W v (clos l n)) => hmv.call W v (codeL xs) (codeL ys) hv (HEN.out.next hW) (code_set h1) (code_set h2))
        have HRU := Lib.hid (fun (W : World) => ruleOf_any all W)
        clear h1 h2 hlen hok hmv
        generalize ruleF all = rf at *
        generalize mvB l all (codeL xs) (codeL ys) = res at *
        generalize codeL xs = ca at *
        generalize codeL ys = cb at *
        go_enter Tryd.func13, Tryd.ntmps13
        go_wp2_with fail
        refine HS1.out.mono ?_
        rintro e w1 ⟨rfl, b1⟩
        have HE1 := Lib.hid (btrans HB0.out b1)
        have HG1 := Lib.hid (HG0.out.below b1 HG0.out.lt)
        clear p0 p1 b1 HS1 HB0 HG0
        obtain ⟨p0, p1, -, -⟩ := HG1.out.two
        go_wp2_with fail
        refine (HS2.out w1 HE1.out).mono ?_
        rintro e w2 ⟨rfl, b2⟩
        have HE2 := Lib.hid (btrans HE1.out b2)
        have HG2 := Lib.hid (HG1.out.below b2 HG1.out.lt)
        clear p0 p1 b2 HS2 HE1 HG1
        obtain ⟨p0, p1, -, -⟩ := HG2.out.two
        have HCB := Lib.hid (closedBits_any n (.slice A l.length c) l w2.drew (H.out.below HE2.out.drew) hl HGD.out hn)
        go_wp2_with fail
        refine wp_region_held_drew (S := (fun w' : World => w'.cell? ⟨w.heap.size, 0, none⟩ = some (.int .i64 (n : Int)) ∧ w'.cell? ⟨w.heap.size, 1, none⟩ = some (.slice A l.length c))) (by kernel_rfl) (by (try dsimp only); simp [*]) (fun hHeld => ?_)
        change wpAnyH _ _ _ _ _ _ #[false, false, false, false, false, false, false, false, false, false, false] _ _
        refine wpAnyH_take (i := 0) (oi := ⟨some 27, _, _, _, _, _⟩) (v := ?_) rfl (by kernel_rfl) (by kernel_rfl) (by kernel_rfl) (fun _ _ _ h => h) (Or.inl ⟨by rfl, ?_⟩) (by assumption) ?_
        rotate_left
        · (intro w hSw; (try dsimp only at hSw); go_simp; (try (with_reducible rfl)))
        try simp only [Act.put, List.setIfInBounds_toArray, List.set_cons_zero, List.set_cons_succ]
        refine wpAnyH_take (i := 2) (oi := ⟨some 29, _, _, _, _, _⟩) (v := ?_) rfl (by kernel_rfl) (by kernel_rfl) (by kernel_rfl) (fun _ _ _ h => h) (Or.inl ⟨by rfl, ?_⟩) (by assumption) ?_
        rotate_left
        · (intro w hSw; (try dsimp only at hSw); go_simp; (try (with_reducible rfl)))
        try simp only [Act.put, List.setIfInBounds_toArray, List.set_cons_zero, List.set_cons_succ]
        refine wpAnyH_take (i := 4) (oi := ⟨some 31, _, _, _, _, _⟩) (v := ?_) rfl (by kernel_rfl) (by kernel_rfl) (by kernel_rfl) (fun _ _ _ h => h) (Or.inl ⟨by rfl, ?_⟩) (by assumption) ?_
        rotate_left
        · (intro w hSw; (try dsimp only at hSw); go_simp; (try (with_reducible rfl)))
        try simp only [Act.put, List.setIfInBounds_toArray, List.set_cons_zero, List.set_cons_succ]
        refine wpAnyH_take (i := 6) (oi := ⟨some 33, _, _, _, _, _⟩) (v := ?_) rfl (by kernel_rfl) (by kernel_rfl) (by kernel_rfl) (fun _ _ _ h => h) (Or.inl ⟨by rfl, ?_⟩) (by assumption) ?_
        rotate_left
        · (intro w hSw; (try dsimp only at hSw); go_simp; (try (with_reducible rfl)))
        try simp only [Act.put, List.setIfInBounds_toArray, List.set_cons_zero, List.set_cons_succ]
        refine wpAnyH_ready (rs := [1]) (by kernel_rfl) (by simp) ?_
        refine AllReadyH.cons (o := ⟨some 28, _, _, _, _, _⟩) rfl (fun K hK => ?_) AllReadyH.nil
        go_simp
        (with_reducible refine (HRU.out w2.drew).mono ?_); rintro e w4 ⟨rfl, rfl⟩
        go_wp2_with fail
        refine hK.out _ _ (by (try dsimp only); simp [*]) (fun hHeld => ?_)
        clear hK K
        try simp only [List.setIfInBounds_toArray, List.set_cons_zero, List.set_cons_succ]
        refine wpAnyH_ready (rs := [3]) (by kernel_rfl) (by simp) ?_
        refine AllReadyH.cons (o := ⟨some 30, _, _, _, _, _⟩) rfl (fun K hK => ?_) AllReadyH.nil
        go_simp
        (with_reducible refine HCB.out.mono ?_); rintro e w3 ⟨A3, c3, rfl, i3, b3⟩; have d3 : Below w2.heap.size w2 w3 := btrans (Below.refl _ _).drew b3; obtain ⟨k0, k1, -, -⟩ := (HG2.out.below d3 HG2.out.lt).two; have HE3 := Lib.hid (btrans HE2.out d3)
        go_wp2_with fail
        refine hK.out _ _ (by (try dsimp only); simp [*]) (fun hHeld => ?_)
        clear hK K
        try simp only [List.setIfInBounds_toArray, List.set_cons_zero, List.set_cons_succ]
        refine wpAnyH_ready (rs := [5]) (by kernel_rfl) (by simp) ?_
        refine AllReadyH.cons (o := ⟨some 32, _, _, _, _, _⟩) rfl (fun K hK => ?_) AllReadyH.nil
        go_simp
        (with_reducible refine (HBO1.out w3 HE3.out).mono ?_); rintro e w4 ⟨rfl, rfl⟩
        go_wp2_with fail
        refine hK.out _ _ (by (try dsimp only); simp [*]) (fun hHeld => ?_)
        clear hK K
        try simp only [List.setIfInBounds_toArray, List.set_cons_zero, List.set_cons_succ]
        refine wpAnyH_ready (rs := [7]) (by kernel_rfl) (by simp) ?_
        refine AllReadyH.cons (o := ⟨some 34, _, _, _, _, _⟩) rfl (fun K hK => ?_) AllReadyH.nil
        go_simp
        (with_reducible refine (HBO2.out w3 HE3.out).mono ?_); rintro e w4 ⟨rfl, rfl⟩
        go_wp2_with fail
        refine hK.out _ _ (by (try dsimp only); simp [*]) (fun hHeld => ?_)
        clear hK K
        try simp only [List.setIfInBounds_toArray, List.set_cons_zero, List.set_cons_succ]
        refine wpAnyH_ready (rs := [8]) (by kernel_rfl) (by simp) ?_
        refine AllReadyH.cons (o := ⟨some 35, _, _, _, _, _⟩) rfl (fun K hK => ?_) AllReadyH.nil
        go_simp
        (with_reducible refine (HMV.out w3 _ HE3.out i3).mono ?_); rintro e w4 ⟨rfl, b4⟩; obtain ⟨j0, j1, -, -⟩ := ((HG2.out.below d3 HG2.out.lt).below b4 (HG2.out.below d3 HG2.out.lt).lt).two
        go_wp2_with fail
        refine hK.out _ _ (by (try dsimp only); simp [*]) (fun hHeld => ?_)
        clear hK K
        try simp only [List.setIfInBounds_toArray, List.set_cons_zero, List.set_cons_succ]
        refine wpAnyH_take (i := 9) (oi := ⟨some 8, _, _, _, _, _⟩) (v := ?_) rfl (by kernel_rfl) (by kernel_rfl) (by kernel_rfl) (fun _ _ _ h => h) (Or.inl ⟨by rfl, ?_⟩) (by assumption) ?_
        rotate_left
        · (intro w hSw; (try dsimp only at hSw); go_simp; (try (with_reducible rfl)))
        try simp only [Act.put, List.setIfInBounds_toArray, List.set_cons_zero, List.set_cons_succ]
        refine wpAnyH_take (i := 10) (oi := ⟨some 9, _, _, _, _, _⟩) (v := ?_) rfl (by kernel_rfl) (by kernel_rfl) (by kernel_rfl) (fun _ _ _ h => h) (Or.inl ⟨by rfl, ?_⟩) (by assumption) ?_
        rotate_left
        · (intro w hSw; (try dsimp only at hSw); go_simp; (try (with_reducible rfl)))
        try simp only [Act.put, List.setIfInBounds_toArray, List.set_cons_zero, List.set_cons_succ]
        refine wpAnyH_done (by kernel_rfl) ?_ _
        go_wp2_with fail
        go_ret2
        rw [HV.out, HV2.out]
        exact ⟨rfl, btrans HE3.out b4⟩
      · rw [okG_no h2] at HS2
        have HV : Hid (okG (MvP s l all xs ys) = false) := okG_no fun h => h2 h.1.2.1
        have HV2 : Hid (okG (MvOk s l xs ys) = false) := okG_no fun h => h2 h.2.1
        clear h1 h2 hlen
        go_enter Tryd.func13, Tryd.ntmps13
        go_wp2_with fail
        refine HS1.out.mono ?_
        rintro e w1 ⟨rfl, b1⟩
        have HE1 := Lib.hid (btrans HB0.out b1)
        have HG1 := Lib.hid (HG0.out.below b1 HG0.out.lt)
        clear p0 p1 b1 HS1 HB0 HG0
        obtain ⟨p0, p1, -, -⟩ := HG1.out.two
        go_wp2_with fail
        refine (HS2.out w1 HE1.out).mono ?_
        rintro e w2 ⟨rfl, b2⟩
        clear p0 p1
        go_wp2_with fail
        go_ret2
        rw [HV.out, HV2.out]
        exact ⟨rfl, btrans HE1.out b2⟩
    · rw [okG_no h1] at HS1
      have HV : Hid (okG (MvP s l all xs ys) = false) := okG_no fun h => h1 h.1.1
      have HV2 : Hid (okG (MvOk s l xs ys) = false) := okG_no fun h => h1 h.1
      clear h1 hlen
      go_enter Tryd.func13, Tryd.ntmps13
      go_wp2_with fail
      refine HS1.out.mono ?_
      rintro e w1 ⟨rfl, b1⟩
      have HE1 := Lib.hid (btrans HB0.out b1)
      clear p0 p1 b1
      go_wp2_with fail
      go_ret2
      rw [HV.out, HV2.out]
      exact ⟨rfl, HE1.out⟩
  · have hq0 : ((xs.length : Int) != (ys.length : Int)) = true := by
      have h_ : ((xs.length : Int) == (ys.length : Int)) = false := by rw [beq_eq_false_iff_ne]; omega
      show (!((xs.length : Int) == (ys.length : Int))) = true
      rw [h_]; rfl
    have hq1 : ((xs.length : Int) == (ys.length : Int)) = false := by rw [beq_eq_false_iff_ne]; omega
    have hq2 : (xs.length == ys.length) = false := by rw [beq_eq_false_iff_ne]; exact hlen
    have HV : Hid (okG (MvP s l all xs ys) = false) := okG_no fun h => hlen h.1.2.2
    have HV2 : Hid (okG (MvOk s l xs ys) = false) := okG_no fun h => hlen h.2.2
    clear hlen
    go_enter Tryd.func13, Tryd.ntmps13
    go_wp2_with fail
    go_ret2
    rw [HV.out, HV2.out]
    exact ⟨rfl, HB0.out⟩
set_option maxHeartbeats 4000000 in
set_option maxRecDepth 100000 in
theorem specCmg_any (s : Int) (all : Bool) (v u1 u2 : Value) (l : List Ed) (xs ys : List Int) (w : World) (h : Edges w v l) (hl : l.length ≤ 1048576) (hu1 : Ints w u1 xs) (hxl : xs.length ≤ 1048576) (hu2 : Ints w u2 ys) (hyl : ys.length ≤ 1048576) (hs1 : -9223372036854775808 ≤ s) (hs2 : s ≤ 9223372036854775807) :
    Calls Tryd.prog 10 #[.agg #[.int .i64 s, v], u1, u2, .bool all] w fun e w' => e = .returned (.tuple #[.bool (okG (MvP s l all xs ys)), .bool (okG (MvOk s l xs ys))]) ∧ Below w.heap.size w w' := by
  obtain ⟨A, c, rfl, -⟩ := h.form
  obtain ⟨A1, c1, rfl, -⟩ := hu1.form
  obtain ⟨A2, c2, rfl, -⟩ := hu2.form
  have H := Lib.hid h
  have HU1 := Lib.hid hu1
  have HU2 := Lib.hid hu2
  have b0 : Below w.heap.size w (w.alloc (.cells #[.int .i64 s, .slice A l.length c] 29)) := (Below.refl _ _).alloc (Nat.le_refl _) _
  have HG0 := Lib.hid (Blk.new w 29 #[.int .i64 s, .slice A l.length c])
  obtain ⟨p0, p1, -, -⟩ := HG0.out.two
  have HGD := Lib.hid (l2Good_any s _ l _ (h.below b0) hl hs1 hs2)
  have HB0 := Lib.hid b0
  clear h hu1 hu2 b0
  by_cases hgd : P2.Good s l
  · rw [goodB_yes hgd] at HGD
    have h0 := hgd.1
    have h8 := hgd.2.1
    obtain ⟨n, rfl⟩ : ∃ n : Nat, s = (n : Int) := ⟨s.toNat, by omega⟩
    have hn : n ≤ 8 := by omega
    have HST1 := Lib.hid (fun (W : World) (hW : Below w.heap.size w W) => l2Set_any (n : Int) (.slice A l.length c) (.slice A1 xs.length c1) l xs W (HU1.out.below hW) hxl h0 h8)
    have HST2 := Lib.hid (fun (W : World) (hW : Below w.heap.size w W) => l2Set_any (n : Int) (.slice A l.length c) (.slice A2 ys.length c2) l ys W (HU2.out.below hW) hyl h0 h8)
    by_cases h1 : SetOk (n : Int) l xs
    · rw [okG_yes ((rises_set hgd).2 h1)] at HST1
      by_cases h2 : SetOk (n : Int) l ys
      · rw [okG_yes ((rises_set hgd).2 h2)] at HST2
        by_cases hlen : xs.length = ys.length
        · have hok : MvOk (n : Int) l xs ys := ⟨h1, h2, hlen⟩
          have HV : Hid (okG (MvP (n : Int) l all xs ys) = mvB l all (codeL xs) (codeL ys)) := mvP_is hok
          have HV2 : Hid (okG (MvOk (n : Int) l xs ys) = true) := okG_yes hok
          have hq0 : ((xs.length : Int) != (ys.length : Int)) = false := by rw [hlen]; simp
          have hq1 : ((xs.length : Int) == (ys.length : Int)) = true := by rw [hlen]; simp
          have hq2 : (xs.length == ys.length) = true := by rw [hlen]; simp
          have hx1 := set_nd hn h1
          have hx2 := set_nd hn h2
          have HM := Lib.hid (fun (W : World) (hW : Below w.heap.size w W) => l10Moves_any n (codeL xs) (codeL ys) all (.slice A l.length c) (.slice A1 xs.length c1) (.slice A2 ys.length c2) l W (H.out.below hW) hl (by rw [← hx1]; exact HU1.out.below hW) (by rw [← hx2]; exact HU2.out.below hW) hgd hn (code_set h1) (code_set h2) (by rw [set_onesM hn h1, set_onesM hn h2]; exact hlen))
          clear h1 h2 hlen hok hgd hx1 hx2
          generalize mvB l all (codeL xs) (codeL ys) = res at *
          go_enter Tryd.func10, Tryd.ntmps10
          go_wp2_with fail
          refine HGD.out.mono ?_
          rintro e w1 ⟨rfl, b1⟩
          have HE1 := Lib.hid (btrans HB0.out b1)
          have HG1 := Lib.hid (HG0.out.below b1 HG0.out.lt)
          clear p0 p1 b1 HGD HB0 HG0
          obtain ⟨p0, p1, -, -⟩ := HG1.out.two
          go_wp2_with fail
          refine (HST1.out w1 HE1.out).mono ?_
          rintro e w2 ⟨rfl, b2⟩
          have HE2 := Lib.hid (btrans HE1.out b2)
          have HG2 := Lib.hid (HG1.out.below b2 HG1.out.lt)
          clear p0 p1 b2
          obtain ⟨p0, p1, -, -⟩ := HG2.out.two
          go_wp2_with fail
          refine (HST2.out w2 HE2.out).mono ?_
          rintro e w3 ⟨rfl, b3⟩
          have HE3 := Lib.hid (btrans HE2.out b3)
          have HG3 := Lib.hid (HG2.out.below b3 HG2.out.lt)
          clear p0 p1 b3
          obtain ⟨p0, p1, -, -⟩ := HG3.out.two
          go_wp2_with fail
          refine (HM.out w3 HE3.out).mono ?_
          rintro e w4 ⟨rfl, b4⟩
          go_wp2_with fail
          go_ret2
          rw [HV.out, HV2.out]
          exact ⟨rfl, btrans HE3.out b4⟩
        · have hq0 : ((xs.length : Int) != (ys.length : Int)) = true := by
            have h_ : ((xs.length : Int) == (ys.length : Int)) = false := by rw [beq_eq_false_iff_ne]; omega
            show (!((xs.length : Int) == (ys.length : Int))) = true
            rw [h_]; rfl
          have hq1 : ((xs.length : Int) == (ys.length : Int)) = false := by rw [beq_eq_false_iff_ne]; omega
          have hq2 : (xs.length == ys.length) = false := by rw [beq_eq_false_iff_ne]; exact hlen
          have HV : Hid (okG (MvP (n : Int) l all xs ys) = false) := okG_no fun h => hlen h.1.2.2
          have HV2 : Hid (okG (MvOk (n : Int) l xs ys) = false) := okG_no fun h => hlen h.2.2
          clear h1 h2 hlen hgd
          go_enter Tryd.func10, Tryd.ntmps10
          go_wp2_with fail
          refine HGD.out.mono ?_
          rintro e w1 ⟨rfl, b1⟩
          have HE1 := Lib.hid (btrans HB0.out b1)
          have HG1 := Lib.hid (HG0.out.below b1 HG0.out.lt)
          clear p0 p1 b1 HGD HB0 HG0
          obtain ⟨p0, p1, -, -⟩ := HG1.out.two
          go_wp2_with fail
          refine (HST1.out w1 HE1.out).mono ?_
          rintro e w2 ⟨rfl, b2⟩
          have HE2 := Lib.hid (btrans HE1.out b2)
          have HG2 := Lib.hid (HG1.out.below b2 HG1.out.lt)
          clear p0 p1 b2
          obtain ⟨p0, p1, -, -⟩ := HG2.out.two
          go_wp2_with fail
          refine (HST2.out w2 HE2.out).mono ?_
          rintro e w3 ⟨rfl, b3⟩
          clear p0 p1
          go_wp2_with fail
          go_ret2
          rw [HV.out, HV2.out]
          exact ⟨rfl, btrans HE2.out b3⟩
      · rw [okG_no (fun h => h2 ((rises_set hgd).1 h))] at HST2
        have HV : Hid (okG (MvP (n : Int) l all xs ys) = false) := okG_no fun h => h2 h.1.2.1
        have HV2 : Hid (okG (MvOk (n : Int) l xs ys) = false) := okG_no fun h => h2 h.2.1
        clear h1 h2 hgd
        go_enter Tryd.func10, Tryd.ntmps10
        go_wp2_with fail
        refine HGD.out.mono ?_
        rintro e w1 ⟨rfl, b1⟩
        have HE1 := Lib.hid (btrans HB0.out b1)
        have HG1 := Lib.hid (HG0.out.below b1 HG0.out.lt)
        clear p0 p1 b1 HGD HB0 HG0
        obtain ⟨p0, p1, -, -⟩ := HG1.out.two
        go_wp2_with fail
        refine (HST1.out w1 HE1.out).mono ?_
        rintro e w2 ⟨rfl, b2⟩
        have HE2 := Lib.hid (btrans HE1.out b2)
        have HG2 := Lib.hid (HG1.out.below b2 HG1.out.lt)
        clear p0 p1 b2
        obtain ⟨p0, p1, -, -⟩ := HG2.out.two
        go_wp2_with fail
        refine (HST2.out w2 HE2.out).mono ?_
        rintro e w3 ⟨rfl, b3⟩
        clear p0 p1
        go_wp2_with fail
        go_ret2
        rw [HV.out, HV2.out]
        exact ⟨rfl, btrans HE2.out b3⟩
    · rw [okG_no (fun h => h1 ((rises_set hgd).1 h))] at HST1
      have HV : Hid (okG (MvP (n : Int) l all xs ys) = false) := okG_no fun h => h1 h.1.1
      have HV2 : Hid (okG (MvOk (n : Int) l xs ys) = false) := okG_no fun h => h1 h.1
      clear h1 hgd
      go_enter Tryd.func10, Tryd.ntmps10
      go_wp2_with fail
      refine HGD.out.mono ?_
      rintro e w1 ⟨rfl, b1⟩
      have HE1 := Lib.hid (btrans HB0.out b1)
      have HG1 := Lib.hid (HG0.out.below b1 HG0.out.lt)
      clear p0 p1 b1 HGD HB0 HG0
      obtain ⟨p0, p1, -, -⟩ := HG1.out.two
      go_wp2_with fail
      refine (HST1.out w1 HE1.out).mono ?_
      rintro e w2 ⟨rfl, b2⟩
      clear p0 p1
      go_wp2_with fail
      go_ret2
      rw [HV.out, HV2.out]
      exact ⟨rfl, btrans HE1.out b2⟩
  · rw [goodB_no hgd] at HGD
    have HV : Hid (okG (MvP s l all xs ys) = false) := okG_no fun h => hgd h.1.1.1
    have HV2 : Hid (okG (MvOk s l xs ys) = false) := okG_no fun h => hgd h.1.1
    clear hgd
    go_enter Tryd.func10, Tryd.ntmps10
    go_wp2_with fail
    refine HGD.out.mono ?_
    rintro e w1 ⟨rfl, b1⟩
    have HE1 := Lib.hid (btrans HB0.out b1)
    clear p0 p1 b1
    go_wp2_with fail
    go_ret2
    rw [HV.out, HV2.out]
    exact ⟨rfl, HE1.out⟩
end Go.Proofs.YthpodbhiopnnbaaDoor.ups

/- What the row's list says of the table of math/bits. -/
namespace Go.Proofs.YthpodbhiopnnbaaDoor.least
open Go.RowKit

theorem gTab : Tryd.prog.globalNamed "math/bits.deBruijn64tab" = some 1 := by kernel_rfl
theorem gTabType : (Tryd.prog.globals[1]?).map (·.type) = some 129 := by kernel_rfl
theorem cellsTab : Tryd.prog.cellsOf 129 = 64 := by kernel_rfl
theorem cellsU8 : Tryd.prog.cellsOf 5 = 1 := by kernel_rfl
theorem env_of {W : World} {x : String × DataW Unit} {r : List (String × DataW Unit)} (h : laidMet Tryd.prog (x :: ("math/bits.deBruijn64tab", Rows.laid_math_bits_deBruijn64tab) :: r) W) : Env W := by
  have ht : Lib.TabIs Tryd.prog W "math/bits.deBruijn64tab" .u8 (Lib.deBruijn64tab.map fun a : Nat => (a : Int)) := Lib.tabIs_of_head gTab gTabType Tryd.underlying129 Tryd.underlying5 cellsU8 cellsTab h.tail
  intro j hj
  rw [ht.cell gTab j (by simpa using hj)]
  simp [List.getD_eq_getElem?_getD, hj]
end Go.Proofs.YthpodbhiopnnbaaDoor.least

/- Arguments of the laws, opened: a Graph as it came in, a slice of integers as it came in. -/
namespace Go.Proofs.YthpodbhiopnnbaaDoor.opens
open Go.RowKit Go.Joins Go.ChangeShapes Go.WideShapes Go.Deep P2 words

theorem addr_add (g o j : Nat) : (⟨g, o, none⟩ : Addr).add j = ⟨g, o + j, none⟩ := by unfold Addr.add; split <;> simp_all
theorem add_of_add (a : Addr) (i j : Nat) : (a.add i).add j = a.add (i + j) := by
  unfold Addr.add
  by_cases hi : i = 0 <;> by_cases hj : j = 0 <;> simp [hi, hj, Nat.add_assoc]

/-- what is told of a Graph that came in -/
def IsGr (w : World) (s : Int) (v : Value) (l : List Ed) : Prop :=
  Edges w v l ∧ l.length ≤ maxLen ∧ -9223372036854775808 ≤ s ∧ s ≤ 9223372036854775807

theorem bounds64 {n : Int} (h : (Lit.int .i64 n).wf = true) : -9223372036854775808 ≤ n ∧ n ≤ 9223372036854775807 := by
  simp [Lit.wf, IntKind.min, IntKind.max, IntKind.signed, IntKind.bits] at h
  omega

/-- what is told of a slice of integers that came in -/
def IsIn (w : World) (v : Value) (l : List Int) : Prop := Ints w v l ∧ l.length ≤ maxLen ∧ ∀ x ∈ l, -9223372036854775808 ≤ x ∧ x ≤ 9223372036854775807

section
variable {H : Type} {enc : TypeId × Value → H} {w : World} {spare : Nat → Bool} {held : Bool}
theorem open_edges {fuel : Nat} {v : Value} {x : DataW H × List MemPlace} (h : DataW.trod enc Tryd.prog w 0 spare held fuel 22 [v] = some x) :
    ∃ l : List Ed, Edges w v l ∧ l.length ≤ maxLen := by
  rcases open_slice Tryd.underlying22 h with ⟨hv, _⟩ | ⟨a, len, cap, m, n, D, Pl, hv, _, hl, hm, hmm, _, hi⟩
  · obtain rfl : v = .slice none 0 0 := by simpa using hv
    exact ⟨[], Reads.nil _ _, Nat.zero_le _⟩
  · obtain rfl : v = .slice (some a) len cap := by simpa using hv
    have hlm : len ≤ m := by rw [hmm]; split <;> omega
    have hC : Tryd.prog.cellsOf 93 = 2 := by kernel_rfl
    have hC1 : Tryd.prog.cellsOf 3 = 1 := by kernel_rfl
    rw [hC] at hi
    have key : ∀ i, i < len → ∃ e : Ed, w.cell? (a.add (i * 2)) = some (.int .i64 e.1) ∧ w.cell? (a.add (i * 2 + 1)) = some (.int .i64 e.2) := fun i hil => by
      obtain ⟨cs', hc, ht⟩ := hi i (by omega)
      obtain ⟨xs, m', _, _, _, hxl, he⟩ := DataW.trod_array Tryd.underlying93 ht
      obtain ⟨_, hcl, hat⟩ := World.cells?_some hc
      rw [hC1] at he
      match cs', hcl with
      | [c0, c1], _ =>
        match xs, hxl with
        | [y0, y1], _ =>
          have e0 : DataW.trod enc Tryd.prog w 0 spare held m' 3 [c0] = some y0 := he 0 (by decide)
          have e1 : DataW.trod enc Tryd.prog w 0 spare held m' 3 [c1] = some y1 := he 1 (by decide)
          obtain ⟨n0, h0, _, _⟩ := DataW.trod_int Tryd.underlying3 e0
          obtain ⟨n1, h1, _, _⟩ := DataW.trod_int Tryd.underlying3 e1
          obtain rfl : c0 = .int .i64 n0 := by simpa using h0
          obtain rfl : c1 = .int .i64 n1 := by simpa using h1
          have a0 := hat 0 (by decide)
          have a1 := hat 1 (by decide)
          rw [add_of_add] at a0 a1
          exact ⟨(n0, n1), by simpa using a0, by simpa using a1⟩
    obtain ⟨f, hf⟩ := choose_lt (α := Ed) key
    refine ⟨(List.range len).map f, ⟨some a, cap, by simp, fun hn => ?_⟩, by simp; omega⟩
    simp only [List.length_map, List.length_range] at hn ⊢
    obtain ⟨b, off, spot⟩ := a
    have hc0 := (hf 0 hn).1
    have hspot : spot = none := by simpa [Addr.add] using World.cell?_spot hc0
    subst hspot
    refine ⟨b, off, rfl, hl, fun j u hu => ?_⟩
    have hjl : j < len * 2 := by
      have := (List.getElem?_eq_some_iff.1 hu).1
      rw [cellsE_len] at this; simpa using this
    obtain ⟨k, hk⟩ : ∃ k, k = j / 2 := ⟨_, rfl⟩
    have hkl : k < len := by omega
    have hkf : ((List.range len).map f)[k]? = some (f k) := by simp [hkl]
    have hck := cellsE_at hkf
    have hcl := hf k hkl
    rw [addr_add, addr_add] at hcl
    rcases Nat.mod_two_eq_zero_or_one j with h0 | h0
    · obtain rfl : j = k * 2 := by omega
      rw [hck.1] at hu
      rw [hcl.1, ← hu]
    · obtain rfl : j = k * 2 + 1 := by omega
      rw [hck.2] at hu
      rw [hcl.2, ← hu]

set_option maxRecDepth 100000 in
theorem open_graph {r : Reach} {b0 : Nat} {v : Value} {d : DataW H} {p : List MemPlace} (hv : Value.okWide Tryd.prog w r b0 24 v)
    (h : DataW.Trod enc Tryd.prog w 0 spare held 24 v d p) : ∃ s u l, v = .agg #[.int .i64 s, u] ∧ IsGr w s u l := by
  obtain ⟨c0, c1, y0, y1, m, rfl, _, _, h0, h1⟩ := open_agg2 Tryd.underlying24 (by kernel_rfl) (by kernel_rfl) hv h
  obtain ⟨n0, k0, _, w0⟩ := DataW.trod_int Tryd.underlying3 h0
  obtain rfl : c0 = .int .i64 n0 := by simpa using k0
  obtain ⟨l, he, hl⟩ := open_edges h1
  exact ⟨n0, c1, l, rfl, he, hl, bounds64 w0⟩

set_option maxRecDepth 100000 in
theorem open_intsl {r : Reach} {b0 : Nat} {v : Value} {d : DataW H} {p : List MemPlace} (hv : Value.okWide Tryd.prog w r b0 25 v)
    (h : DataW.Trod enc Tryd.prog w 0 spare held 25 v d p) : ∃ u l, v = u ∧ IsIn w u l := by
  obtain ⟨A, len, cap, rfl⟩ := okWide_slice Tryd.underlying25 hv
  obtain ⟨fuel, hf⟩ := h
  simp only [Value.cells] at hf
  rcases open_slice Tryd.underlying25 hf with ⟨hv, _⟩ | ⟨a, len', cap', m, n, D, Pl, hv, _, hl, hm, hmm, _, hi⟩
  · have e : Value.slice A len cap = .slice none 0 0 := by simpa using hv
    rw [e]
    exact ⟨_, [], rfl, Reads.nil _ _, Nat.zero_le _, fun x hx => by cases hx⟩
  · have e : Value.slice A len cap = .slice (some a) len' cap' := by simpa using hv
    rw [e]
    have hlm : len' ≤ m := by rw [hmm]; split <;> omega
    have hC1 : Tryd.prog.cellsOf 3 = 1 := by kernel_rfl
    rw [hC1] at hi
    have key : ∀ i, i < len' → ∃ x : Int, w.cell? (a.add i) = some (.int .i64 x) ∧ (Lit.int .i64 x).wf = true := fun i hil => by
      obtain ⟨cs', hc, ht⟩ := hi i (by omega)
      obtain ⟨_, hcl, hat⟩ := World.cells?_some hc
      match cs', hcl with
      | [c0], _ =>
        obtain ⟨n0, h0, _, hw⟩ := DataW.trod_int Tryd.underlying3 ht
        obtain rfl : c0 = .int .i64 n0 := by simpa using h0
        have a0 := hat 0 (by decide)
        rw [add_of_add, Nat.mul_one] at a0
        exact ⟨n0, by simpa using a0, hw⟩
    obtain ⟨f, hf⟩ := choose_lt (α := Int) key
    refine ⟨_, (List.range len').map f, rfl, ⟨some a, cap', by simp, fun hn => ?_⟩, by simp; omega, fun x hx => ?_⟩
    · simp only [List.length_map, List.length_range] at hn ⊢
      obtain ⟨b, off, spot⟩ := a
      have hc0 := (hf 0 hn).1
      have hspot : spot = none := by simpa [Addr.add] using World.cell?_spot hc0
      subst hspot
      refine ⟨b, off, rfl, hl, fun j u hu => ?_⟩
      have hjl : j < len' := by
        have := (List.getElem?_eq_some_iff.1 hu).1
        rw [cellsI_len] at this; simpa using this
      have hcl := (hf j hjl).1
      rw [addr_add] at hcl
      have hkf : ((List.range len').map f)[j]? = some (f j) := by simp [hjl]
      rw [cellsI_at hkf] at hu
      rw [hcl, ← hu]
    · simp only [List.mem_map, List.mem_range] at hx
      obtain ⟨j, hj, rfl⟩ := hx
      exact bounds64 (hf j hj).2
end
end Go.Proofs.YthpodbhiopnnbaaDoor.opens
