/- Guards: the contracts of the program's IsDominating, LeastDominating and LargestIndependent. -/
import Derived.Handy
import Derived.Test.YthpodbhiopnnbaaDoorK13
import Derived.Test.YthpodbhiopnnbaaDoorK20
import Derived.Test.YthpodbhiopnnbaaDoorK08
import Derived.Deep.DeepCutAuto
import Derived.Deep.RegionHeld3
import Derived.Deep.QuietTactic
import Derived.Test.YthpodbhiopnnbaaDoorK09
import Derived.Test.YthpodbhiopnnbaaDoorK01
import Derived.Test.YthpodbhiopnnbaaDoorK19
import Derived.Test.YthpodbhiopnnbaaDoorK16
import Derived.Test.YthpodbhiopnnbaaDoorK04
import Derived.Test.YthpodbhiopnnbaaDoorK10
import Derived.Test.YthpodbhiopnnbaaDoorK17
namespace Go.Proofs.YthpodbhiopnnbaaDoor.ups
open Go.RowKit P2 words edges ints good adjs fns sets rets covs bags bitsI func
set_option linter.unusedVariables false

theorem beq_castD (a b : Nat) : (((a : Nat) : Int) == ((b : Nat) : Int)) = (a == b) := by
  rw [Bool.eq_iff_iff, beq_iff_eq, beq_iff_eq]; omega
def DomP (s : Int) (l : List Ed) (xs : List Int) : Prop := SetOk s l xs ∧ domB s.toNat l (codeL xs) = true
theorem domP_is {n : Nat} {l : List Ed} {xs : List Int} (h : SetOk (n : Int) l xs) : okG (DomP (n : Int) l xs) = domB n l (codeL xs) := by
  unfold DomP
  rw [Int.toNat_natCast, Bool.eq_iff_iff, okG_iff]
  exact ⟨fun h => h.2, fun h2 => ⟨h, h2⟩⟩
noncomputable def ldN (n : Nat) (l : List Ed) : Nat := bestC (domB n l) rkMin n
noncomputable def liN (n : Nat) (l : List Ed) : Nat := bestC (farB l n 1) rkMax n
end Go.Proofs.YthpodbhiopnnbaaDoor.ups

/- The contracts of the model's l4Less over lists of the same length, and of LeastSpreading. -/
namespace Go.Proofs.YthpodbhiopnnbaaDoor.ups
open Go.RowKit P2 words edges ints good adjs fns sets rets covs bags balls bitsI func
set_option linter.unusedVariables false

theorem dropI {L : List Int} {i : Nat} {x : Int} (h : L[i]? = some x) : L.drop i = x :: L.drop (i + 1) := by
  obtain ⟨h1, h2⟩ := List.getElem?_eq_some_iff.1 h
  rw [List.drop_eq_getElem_cons h1, h2]
theorem lexI_same {a b : List Int} {i : Nat} {x : Int} (ha : a[i]? = some x) (hb : b[i]? = some x) : lexI (a.drop i) (b.drop i) = lexI (a.drop (i + 1)) (b.drop (i + 1)) := by
  rw [dropI ha, dropI hb]; show (if x = x then _ else _) = _; rw [if_pos rfl]
theorem lexI_diff {a b : List Int} {i : Nat} {x y : Int} (ha : a[i]? = some x) (hb : b[i]? = some y) (h : x ≠ y) : lexI (a.drop i) (b.drop i) = decide (x < y) := by
  rw [dropI ha, dropI hb]; show (if x = y then _ else _) = _; rw [if_neg h]
theorem lexI_end {a b : List Int} : lexI (a.drop a.length) b = false := by
  rw [List.drop_length]; cases b <;> rfl
theorem full_len {n : Nat} {l : List Ed} {r c : Nat} (hn : n ≤ 8) (h : spN n l r c < 2 ^ n) : fullB n l r c = decide (¬ (nw (bitB (spN n l r c)) n).length < n) := by
  have h8 := Nat.lt_of_lt_of_le h (pow_le hn)
  have h1 := ones_full ⟨n, by omega⟩ ⟨spN n l r c, h8⟩ h
  have h2 := ones_topN hn h
  rw [nd_bits hn h, nd_len]
  unfold fullB
  simp only at h1
  rw [Bool.eq_iff_iff, beq_iff_eq, decide_eq_true_iff, ← h1]
  omega
theorem lsp_len (s : Int) (l : List Ed) (r : Int) : (inG (NumOk s l r) (ndN (lspN s.toNat l r.toNat))).length ≤ 1048576 := inG_len fun _ => by
  unfold ndN
  have := nw_len (bitB (lspN s.toNat l r.toNat)) 8
  omega
end Go.Proofs.YthpodbhiopnnbaaDoor.ups

/- Guards: the contracts of the model's l10Dominates, IsDominating and LeastDominating. -/
namespace Go.Proofs.YthpodbhiopnnbaaDoor.ups
open Go.RowKit P2 words edges ints good adjs fns sets rets covs bags balls bitsI func
set_option linter.unusedVariables false

theorem rises_set {n : Nat} {l : List Ed} {xs : List Int} (hg : P2.Good (n : Int) l) : RisesIn xs 0 ((n : Int) - 1) ↔ SetOk (n : Int) l xs :=
  ⟨fun h => ⟨hg, fun x hx => by have := h.1 x hx; omega, h.2⟩, fun h => ⟨fun x hx => by have := h.2.1 x hx; omega, h.2.2⟩⟩
end Go.Proofs.YthpodbhiopnnbaaDoor.ups

/- Guards: the contracts of the program's and the model's CanMoveGuards. -/
namespace Go.Proofs.YthpodbhiopnnbaaDoor.ups
open Go.RowKit P2 words edges ints good adjs fns sets rets covs bags bitsI func lists least
set_option linter.unusedVariables false

def MvOk (s : Int) (l : List Ed) (xs ys : List Int) : Prop := SetOk s l xs ∧ SetOk s l ys ∧ xs.length = ys.length
def MvP (s : Int) (l : List Ed) (all : Bool) (xs ys : List Int) : Prop := MvOk s l xs ys ∧ mvB l all (codeL xs) (codeL ys) = true
theorem mvP_is {s : Int} {l : List Ed} {all : Bool} {xs ys : List Int} (h : MvOk s l xs ys) : okG (MvP s l all xs ys) = mvB l all (codeL xs) (codeL ys) := by
  rw [Bool.eq_iff_iff, okG_iff]
  exact ⟨fun h => h.2, fun h2 => ⟨h, h2⟩⟩
theorem set_nd {n : Nat} {l : List Ed} {xs : List Int} (hn : n ≤ 8) (h : SetOk (n : Int) l xs) : xs = ndN (codeL xs) := by
  have h1 := set_code h.2.2 h.2.1
  rw [nd_bits hn (code_set h)] at h1
  exact h1
theorem set_onesM {n : Nat} {l : List Ed} {xs : List Int} (hn : n ≤ 8) (h : SetOk (n : Int) l xs) : onesN (codeL xs) = xs.length := by
  have h1 := congrArg List.length (set_nd hn h)
  rw [nd_len] at h1
  exact h1.symm
theorem beq_castG (a b : Nat) : (((a : Nat) : Int) == ((b : Nat) : Int)) = (a == b) := by
  rw [Bool.eq_iff_iff, beq_iff_eq, beq_iff_eq]; omega
set_option maxHeartbeats 4000000 in
set_option maxRecDepth 100000 in
theorem implCmg_any (s : Int) (all : Bool) (v u1 u2 : Value) (l : List Ed) (xs ys : List Int) (w : World) (hE : Env w) (h : Edges w v l) (hl : l.length ≤ 1048576) (hu1 : Ints w u1 xs) (hxl : xs.length ≤ 1048576) (hu2 : Ints w u2 ys) (hyl : ys.length ≤ 1048576) :
    Calls Tryd.prog 13 #[.agg #[.int .i64 s, v], u1, u2, .bool all] w fun e w' => e = .returned (.tuple #[.bool (okG (MvP s l all xs ys)), .bool (okG (MvOk s l xs ys))]) ∧ Below w.heap.size w w' := by
  obtain ⟨A, c, rfl, -⟩ := h.form
  obtain ⟨A1, c1, rfl, -⟩ := hu1.form
  obtain ⟨A2, c2, rfl, -⟩ := hu2.form
  have H := Lib.hid h
  have HU1 := Lib.hid hu1
  have HU2 := Lib.hid hu2
  have HEN := Lib.hid hE
  have b0 : Below w.heap.size w (w.alloc (.cells #[.int .i64 s, .slice A l.length c] 29)) := (Below.refl _ _).alloc (Nat.le_refl _) _
  have HG0 := Lib.hid (Blk.new w 29 #[.int .i64 s, .slice A l.length c])
  obtain ⟨p0, p1, -, -⟩ := HG0.out.two
  have HS1 := Lib.hid (hasSet_any s (.slice A l.length c) (.slice A1 xs.length c1) l xs _ (h.below b0) hl (hu1.below b0) hxl)
  have HS2 := Lib.hid (fun (W : World) (hW : Below w.heap.size w W) => hasSet_any s (.slice A l.length c) (.slice A2 ys.length c2) l ys W (H.out.below hW) hl (HU2.out.below hW) hyl)
  have HB0 := Lib.hid b0
  clear h hu1 hu2 b0 hE
  by_cases hlen : xs.length = ys.length
  · have hq0 : ((xs.length : Int) != (ys.length : Int)) = false := by rw [hlen]; simp
    have hq1 : ((xs.length : Int) == (ys.length : Int)) = true := by rw [hlen]; simp
    have hq2 : (xs.length == ys.length) = true := by rw [hlen]; simp
    by_cases h1 : SetOk s l xs
    · rw [okG_yes h1] at HS1
      by_cases h2 : SetOk s l ys
      · rw [okG_yes h2] at HS2
        have hok : MvOk s l xs ys := ⟨h1, h2, hlen⟩
        have HV : Hid (okG (MvP s l all xs ys) = mvB l all (codeL xs) (codeL ys)) := mvP_is hok
        have HV2 : Hid (okG (MvOk s l xs ys) = true) := okG_yes hok
        have h0 := h1.1.1
        have h8 := h1.1.2.1
        obtain ⟨n, rfl⟩ : ∃ n : Nat, s = (n : Int) := ⟨s.toNat, by omega⟩
        have hn : n ≤ 8 := by omega
        have HGD := Lib.hid h1.1
        have HBO1 := Lib.hid (fun (W : World) (hW : Below w.heap.size w W) => bitsOf_any (.slice A1 xs.length c1) xs W (HU1.out.below hW) hxl (fun x hx => by have := h1.2.1 x hx; omega))
        have HBO2 := Lib.hid (fun (W : World) (hW : Below w.heap.size w W) => bitsOf_any (.slice A2 ys.length c2) ys W (HU2.out.below hW) hyl (fun x hx => by have := h2.2.1 x hx; omega))
        have hmv := rule_mv h1.1 hn all
        have hent := hmv.enter
        have HMV := Lib.hid (fun (W : World) (v : Value) (hW : Below w.heap.size w W) (hv : Nums W v (clos l n)) => hmv.call W v (codeL xs) (codeL ys) hv (HEN.out.next hW) (code_set h1) (code_set h2))
        have HRU := Lib.hid (fun (W : World) => ruleOf_any all W)
        clear h1 h2 hlen hok hmv
        generalize ruleF all = rf at *
        generalize mvB l all (codeL xs) (codeL ys) = res at *
        generalize codeL xs = ca at *
        generalize codeL ys = cb at *
        go_enter Tryd.func13, Tryd.ntmps13
        go_wp2_with fail
        refine HS1.out.mono ?_
        rintro e w1 ⟨rfl, b1⟩
        have HE1 := Lib.hid (btrans HB0.out b1)
        have HG1 := Lib.hid (HG0.out.below b1 HG0.out.lt)
        clear p0 p1 b1 HS1 HB0 HG0
        obtain ⟨p0, p1, -, -⟩ := HG1.out.two
        go_wp2_with fail
        refine (HS2.out w1 HE1.out).mono ?_
        rintro e w2 ⟨rfl, b2⟩
        have HE2 := Lib.hid (btrans HE1.out b2)
        have HG2 := Lib.hid (HG1.out.below b2 HG1.out.lt)
        clear p0 p1 b2 HS2 HE1 HG1
        obtain ⟨p0, p1, -, -⟩ := HG2.out.two
        have HCB := Lib.hid (closedBits_any n (.slice A l.length c) l w2.drew (H.out.below HE2.out.drew) hl HGD.out hn)
        go_wp2_with fail
        refine wp_region_held_drew (S := (fun w' : World => w'.cell? ⟨w.heap.size, 0, none⟩ = some (.int .i64 (n : Int)) ∧ w'.cell? ⟨w.heap.size, 1, none⟩ = some (.slice A l.length c))) (by kernel_rfl) (by (try dsimp only); simp [*]) (fun hHeld => ?_)
        change wpAnyH _ _ _ _ _ _ #[false, false, false, false, false, false, false, false, false, false, false] _ _
        refine wpAnyH_take (i := 0) (oi := ⟨some 27, _, _, _, _, _⟩) (v := ?_) rfl (by kernel_rfl) (by kernel_rfl) (by kernel_rfl) (fun _ _ _ h => h) (Or.inl ⟨by rfl, ?_⟩) (by assumption) ?_
        rotate_left
        · (intro w hSw; (try dsimp only at hSw); go_simp; (try (with_reducible rfl)))
        try simp only [Act.put, List.setIfInBounds_toArray, List.set_cons_zero, List.set_cons_succ]
        refine wpAnyH_take (i := 2) (oi := ⟨some 29, _, _, _, _, _⟩) (v := ?_) rfl (by kernel_rfl) (by kernel_rfl) (by kernel_rfl) (fun _ _ _ h => h) (Or.inl ⟨by rfl, ?_⟩) (by assumption) ?_
        rotate_left
        · (intro w hSw; (try dsimp only at hSw); go_simp; (try (with_reducible rfl)))
        try simp only [Act.put, List.setIfInBounds_toArray, List.set_cons_zero, List.set_cons_succ]
        refine wpAnyH_take (i := 4) (oi := ⟨some 31, _, _, _, _, _⟩) (v := ?_) rfl (by kernel_rfl) (by kernel_rfl) (by kernel_rfl) (fun _ _ _ h => h) (Or.inl ⟨by rfl, ?_⟩) (by assumption) ?_
        rotate_left
        · (intro w hSw; (try dsimp only at hSw); go_simp; (try (with_reducible rfl)))
        try simp only [Act.put, List.setIfInBounds_toArray, List.set_cons_zero, List.set_cons_succ]
        refine wpAnyH_take (i := 6) (oi := ⟨some 33, _, _, _, _, _⟩) (v := ?_) rfl (by kernel_rfl) (by kernel_rfl) (by kernel_rfl) (fun _ _ _ h => h) (Or.inl ⟨by rfl, ?_⟩) (by assumption) ?_
        rotate_left
        · (intro w hSw; (try dsimp only at hSw); go_simp; (try (with_reducible rfl)))
        try simp only [Act.put, List.setIfInBounds_toArray, List.set_cons_zero, List.set_cons_succ]
        refine wpAnyH_ready (rs := [1]) (by kernel_rfl) (by simp) ?_
        refine AllReadyH.cons (o := ⟨some 28, _, _, _, _, _⟩) rfl (fun K hK => ?_) AllReadyH.nil
        go_simp
        (with_reducible refine (HRU.out w2.drew).mono ?_); rintro e w4 ⟨rfl, rfl⟩
        go_wp2_with fail
        refine hK.out _ _ (by (try dsimp only); simp [*]) (fun hHeld => ?_)
        clear hK K
        try simp only [List.setIfInBounds_toArray, List.set_cons_zero, List.set_cons_succ]
        refine wpAnyH_ready (rs := [3]) (by kernel_rfl) (by simp) ?_
        refine AllReadyH.cons (o := ⟨some 30, _, _, _, _, _⟩) rfl (fun K hK => ?_) AllReadyH.nil
        go_simp
        (with_reducible refine HCB.out.mono ?_); rintro e w3 ⟨A3, c3, rfl, i3, b3⟩; have d3 : Below w2.heap.size w2 w3 := btrans (Below.refl _ _).drew b3; obtain ⟨k0, k1, -, -⟩ := (HG2.out.below d3 HG2.out.lt).two; have HE3 := Lib.hid (btrans HE2.out d3)
        go_wp2_with fail
        refine hK.out _ _ (by (try dsimp only); simp [*]) (fun hHeld => ?_)
        clear hK K
        try simp only [List.setIfInBounds_toArray, List.set_cons_zero, List.set_cons_succ]
        refine wpAnyH_ready (rs := [5]) (by kernel_rfl) (by simp) ?_
        refine AllReadyH.cons (o := ⟨some 32, _, _, _, _, _⟩) rfl (fun K hK => ?_) AllReadyH.nil
        go_simp
        (with_reducible refine (HBO1.out w3 HE3.out).mono ?_); rintro e w4 ⟨rfl, rfl⟩
        go_wp2_with fail
        refine hK.out _ _ (by (try dsimp only); simp [*]) (fun hHeld => ?_)
        clear hK K
        try simp only [List.setIfInBounds_toArray, List.set_cons_zero, List.set_cons_succ]
        refine wpAnyH_ready (rs := [7]) (by kernel_rfl) (by simp) ?_
        refine AllReadyH.cons (o := ⟨some 34, _, _, _, _, _⟩) rfl (fun K hK => ?_) AllReadyH.nil
        go_simp
        (with_reducible refine (HBO2.out w3 HE3.out).mono ?_); rintro e w4 ⟨rfl, rfl⟩
        go_wp2_with fail
        refine hK.out _ _ (by (try dsimp only); simp [*]) (fun hHeld => ?_)
        clear hK K
        try simp only [List.setIfInBounds_toArray, List.set_cons_zero, List.set_cons_succ]
        refine wpAnyH_ready (rs := [8]) (by kernel_rfl) (by simp) ?_
        refine AllReadyH.cons (o := ⟨some 35, _, _, _, _, _⟩) rfl (fun K hK => ?_) AllReadyH.nil
        go_simp
        (with_reducible refine (HMV.out w3 _ HE3.out i3).mono ?_); rintro e w4 ⟨rfl, b4⟩; obtain ⟨j0, j1, -, -⟩ := ((HG2.out.below d3 HG2.out.lt).below b4 (HG2.out.below d3 HG2.out.lt).lt).two
        go_wp2_with fail
        refine hK.out _ _ (by (try dsimp only); simp [*]) (fun hHeld => ?_)
        clear hK K
        try simp only [List.setIfInBounds_toArray, List.set_cons_zero, List.set_cons_succ]
        refine wpAnyH_take (i := 9) (oi := ⟨some 8, _, _, _, _, _⟩) (v := ?_) rfl (by kernel_rfl) (by kernel_rfl) (by kernel_rfl) (fun _ _ _ h => h) (Or.inl ⟨by rfl, ?_⟩) (by assumption) ?_
        rotate_left
        · (intro w hSw; (try dsimp only at hSw); go_simp; (try (with_reducible rfl)))
        try simp only [Act.put, List.setIfInBounds_toArray, List.set_cons_zero, List.set_cons_succ]
        refine wpAnyH_take (i := 10) (oi := ⟨some 9, _, _, _, _, _⟩) (v := ?_) rfl (by kernel_rfl) (by kernel_rfl) (by kernel_rfl) (fun _ _ _ h => h) (Or.inl ⟨by rfl, ?_⟩) (by assumption) ?_
        rotate_left
        · (intro w hSw; (try dsimp only at hSw); go_simp; (try (with_reducible rfl)))
        try simp only [Act.put, List.setIfInBounds_toArray, List.set_cons_zero, List.set_cons_succ]
        refine wpAnyH_done (by kernel_rfl) ?_ _
        go_wp2_with fail
        go_ret2
        rw [HV.out, HV2.out]
        exact ⟨rfl, btrans HE3.out b4⟩
      · rw [okG_no h2] at HS2
        have HV : Hid (okG (MvP s l all xs ys) = false) := okG_no fun h => h2 h.1.2.1
        have HV2 : Hid (okG (MvOk s l xs ys) = false) := okG_no fun h => h2 h.2.1
        clear h1 h2 hlen
        go_enter Tryd.func13, Tryd.ntmps13
        go_wp2_with fail
        refine HS1.out.mono ?_
        rintro e w1 ⟨rfl, b1⟩
        have HE1 := Lib.hid (btrans HB0.out b1)
        have HG1 := Lib.hid (HG0.out.below b1 HG0.out.lt)
        clear p0 p1 b1 HS1 HB0 HG0
        obtain ⟨p0, p1, -, -⟩ := HG1.out.two
        go_wp2_with fail
        refine (HS2.out w1 HE1.out).mono ?_
        rintro e w2 ⟨rfl, b2⟩
        clear p0 p1
        go_wp2_with fail
        go_ret2
        rw [HV.out, HV2.out]
        exact ⟨rfl, btrans HE1.out b2⟩
    · rw [okG_no h1] at HS1
      have HV : Hid (okG (MvP s l all xs ys) = false) := okG_no fun h => h1 h.1.1
      have HV2 : Hid (okG (MvOk s l xs ys) = false) := okG_no fun h => h1 h.1
      clear h1 hlen
      go_enter Tryd.func13, Tryd.ntmps13
      go_wp2_with fail
      refine HS1.out.mono ?_
      rintro e w1 ⟨rfl, b1⟩
      have HE1 := Lib.hid (btrans HB0.out b1)
      clear p0 p1 b1
      go_wp2_with fail
      go_ret2
      rw [HV.out, HV2.out]
      exact ⟨rfl, HE1.out⟩
  · have hq0 : ((xs.length : Int) != (ys.length : Int)) = true := by
      have h_ : ((xs.length : Int) == (ys.length : Int)) = false := by rw [beq_eq_false_iff_ne]; omega
      show (!((xs.length : Int) == (ys.length : Int))) = true
      rw [h_]; rfl
    have hq1 : ((xs.length : Int) == (ys.length : Int)) = false := by rw [beq_eq_false_iff_ne]; omega
    have hq2 : (xs.length == ys.length) = false := by rw [beq_eq_false_iff_ne]; exact hlen
    have HV : Hid (okG (MvP s l all xs ys) = false) := okG_no fun h => hlen h.1.2.2
    have HV2 : Hid (okG (MvOk s l xs ys) = false) := okG_no fun h => hlen h.2.2
    clear hlen
    go_enter Tryd.func13, Tryd.ntmps13
    go_wp2_with fail
    go_ret2
    rw [HV.out, HV2.out]
    exact ⟨rfl, HB0.out⟩
set_option maxHeartbeats 4000000 in
set_option maxRecDepth 100000 in
theorem specCmg_any (s : Int) (all : Bool) (v u1 u2 : Value) (l : List Ed) (xs ys : List Int) (w : World) (h : Edges w v l) (hl : l.length ≤ 1048576) (hu1 : Ints w u1 xs) (hxl : xs.length ≤ 1048576) (hu2 : Ints w u2 ys) (hyl : ys.length ≤ 1048576) (hs1 : -9223372036854775808 ≤ s) (hs2 : s ≤ 9223372036854775807) :
    Calls Tryd.prog 10 #[.agg #[.int .i64 s, v], u1, u2, .bool all] w fun e w' => e = .returned (.tuple #[.bool (okG (MvP s l all xs ys)), .bool (okG (MvOk s l xs ys))]) ∧ Below w.heap.size w w' := by
  obtain ⟨A, c, rfl, -⟩ := h.form
  obtain ⟨A1, c1, rfl, -⟩ := hu1.form
  obtain ⟨A2, c2, rfl, -⟩ := hu2.form
  have H := Lib.hid h
  have HU1 := Lib.hid hu1
  have HU2 := Lib.hid hu2
  have b0 : Below w.heap.size w (w.alloc (.cells #[.int .i64 s, .slice A l.length c] 29)) := (Below.refl _ _).alloc (Nat.le_refl _) _
  have HG0 := Lib.hid (Blk.new w 29 #[.int .i64 s, .slice A l.length c])
  obtain ⟨p0, p1, -, -⟩ := HG0.out.two
  have HGD := Lib.hid (l2Good_any s _ l _ (h.below b0) hl hs1 hs2)
  have HB0 := Lib.hid b0
  clear h hu1 hu2 b0
  by_cases hgd : P2.Good s l
  · rw [goodB_yes hgd] at HGD
    have h0 := hgd.1
    have h8 := hgd.2.1
    obtain ⟨n, rfl⟩ : ∃ n : Nat, s = (n : Int) := ⟨s.toNat, by omega⟩
    have hn : n ≤ 8 := by omega
    have HST1 := Lib.hid (fun (W : World) (hW : Below w.heap.size w W) => l2Set_any (n : Int) (.slice A l.length c) (.slice A1 xs.length c1) l xs W (HU1.out.below hW) hxl h0 h8)
    have HST2 := Lib.hid (fun (W : World) (hW : Below w.heap.size w W) => l2Set_any (n : Int) (.slice A l.length c) (.slice A2 ys.length c2) l ys W (HU2.out.below hW) hyl h0 h8)
    by_cases h1 : SetOk (n : Int) l xs
    · rw [okG_yes ((rises_set hgd).2 h1)] at HST1
      by_cases h2 : SetOk (n : Int) l ys
      · rw [okG_yes ((rises_set hgd).2 h2)] at HST2
        by_cases hlen : xs.length = ys.length
        · have hok : MvOk (n : Int) l xs ys := ⟨h1, h2, hlen⟩
          have HV : Hid (okG (MvP (n : Int) l all xs ys) = mvB l all (codeL xs) (codeL ys)) := mvP_is hok
          have HV2 : Hid (okG (MvOk (n : Int) l xs ys) = true) := okG_yes hok
          have hq0 : ((xs.length : Int) != (ys.length : Int)) = false := by rw [hlen]; simp
          have hq1 : ((xs.length : Int) == (ys.length : Int)) = true := by rw [hlen]; simp
          have hq2 : (xs.length == ys.length) = true := by rw [hlen]; simp
          have hx1 := set_nd hn h1
          have hx2 := set_nd hn h2
          have HM := Lib.hid (fun (W : World) (hW : Below w.heap.size w W) => l10Moves_any n (codeL xs) (codeL ys) all (.slice A l.length c) (.slice A1 xs.length c1) (.slice A2 ys.length c2) l W (H.out.below hW) hl (by rw [← hx1]; exact HU1.out.below hW) (by rw [← hx2]; exact HU2.out.below hW) hgd hn (code_set h1) (code_set h2) (by rw [set_onesM hn h1, set_onesM hn h2]; exact hlen))
          clear h1 h2 hlen hok hgd hx1 hx2
          generalize mvB l all (codeL xs) (codeL ys) = res at *
          go_enter Tryd.func10, Tryd.ntmps10
          go_wp2_with fail
          refine HGD.out.mono ?_
          rintro e w1 ⟨rfl, b1⟩
          have HE1 := Lib.hid (btrans HB0.out b1)
          have HG1 := Lib.hid (HG0.out.below b1 HG0.out.lt)
          clear p0 p1 b1 HGD HB0 HG0
          obtain ⟨p0, p1, -, -⟩ := HG1.out.two
          go_wp2_with fail
          refine (HST1.out w1 HE1.out).mono ?_
          rintro e w2 ⟨rfl, b2⟩
          have HE2 := Lib.hid (btrans HE1.out b2)
          have HG2 := Lib.hid (HG1.out.below b2 HG1.out.lt)
          clear p0 p1 b2
          obtain ⟨p0, p1, -, -⟩ := HG2.out.two
          go_wp2_with fail
          refine (HST2.out w2 HE2.out).mono ?_
          rintro e w3 ⟨rfl, b3⟩
          have HE3 := Lib.hid (btrans HE2.out b3)
          have HG3 := Lib.hid (HG2.out.below b3 HG2.out.lt)
          clear p0 p1 b3
          obtain ⟨p0, p1, -, -⟩ := HG3.out.two
          go_wp2_with fail
          refine (HM.out w3 HE3.out).mono ?_
          rintro e w4 ⟨rfl, b4⟩
          go_wp2_with fail
          go_ret2
          rw [HV.out, HV2.out]
          exact ⟨rfl, btrans HE3.out b4⟩
        · have hq0 : ((xs.length : Int) != (ys.length : Int)) = true := by
            have h_ : ((xs.length : Int) == (ys.length : Int)) = false := by rw [beq_eq_false_iff_ne]; omega
            show (!((xs.length : Int) == (ys.length : Int))) = true
            rw [h_]; rfl
          have hq1 : ((xs.length : Int) == (ys.length : Int)) = false := by rw [beq_eq_false_iff_ne]; omega
          have hq2 : (xs.length == ys.length) = false := by rw [beq_eq_false_iff_ne]; exact hlen
          have HV : Hid (okG (MvP (n : Int) l all xs ys) = false) := okG_no fun h => hlen h.1.2.2
          have HV2 : Hid (okG (MvOk (n : Int) l xs ys) = false) := okG_no fun h => hlen h.2.2
          clear h1 h2 hlen hgd
          go_enter Tryd.func10, Tryd.ntmps10
          go_wp2_with fail
          refine HGD.out.mono ?_
          rintro e w1 ⟨rfl, b1⟩
          have HE1 := Lib.hid (btrans HB0.out b1)
          have HG1 := Lib.hid (HG0.out.below b1 HG0.out.lt)
          clear p0 p1 b1 HGD HB0 HG0
          obtain ⟨p0, p1, -, -⟩ := HG1.out.two
          go_wp2_with fail
          refine (HST1.out w1 HE1.out).mono ?_
          rintro e w2 ⟨rfl, b2⟩
          have HE2 := Lib.hid (btrans HE1.out b2)
          have HG2 := Lib.hid (HG1.out.below b2 HG1.out.lt)
          clear p0 p1 b2
          obtain ⟨p0, p1, -, -⟩ := HG2.out.two
          go_wp2_with fail
          refine (HST2.out w2 HE2.out).mono ?_
          rintro e w3 ⟨rfl, b3⟩
          clear p0 p1
          go_wp2_with fail
          go_ret2
          rw [HV.out, HV2.out]
          exact ⟨rfl, btrans HE2.out b3⟩
      · rw [okG_no (fun h => h2 ((rises_set hgd).1 h))] at HST2
        have HV : Hid (okG (MvP (n : Int) l all xs ys) = false) := okG_no fun h => h2 h.1.2.1
        have HV2 : Hid (okG (MvOk (n : Int) l xs ys) = false) := okG_no fun h => h2 h.2.1
        clear h1 h2 hgd
        go_enter Tryd.func10, Tryd.ntmps10
        go_wp2_with fail
        refine HGD.out.mono ?_
        rintro e w1 ⟨rfl, b1⟩
        have HE1 := Lib.hid (btrans HB0.out b1)
        have HG1 := Lib.hid (HG0.out.below b1 HG0.out.lt)
        clear p0 p1 b1 HGD HB0 HG0
        obtain ⟨p0, p1, -, -⟩ := HG1.out.two
        go_wp2_with fail
        refine (HST1.out w1 HE1.out).mono ?_
        rintro e w2 ⟨rfl, b2⟩
        have HE2 := Lib.hid (btrans HE1.out b2)
        have HG2 := Lib.hid (HG1.out.below b2 HG1.out.lt)
        clear p0 p1 b2
        obtain ⟨p0, p1, -, -⟩ := HG2.out.two
        go_wp2_with fail
        refine (HST2.out w2 HE2.out).mono ?_
        rintro e w3 ⟨rfl, b3⟩
        clear p0 p1
        go_wp2_with fail
        go_ret2
        rw [HV.out, HV2.out]
        exact ⟨rfl, btrans HE2.out b3⟩
    · rw [okG_no (fun h => h1 ((rises_set hgd).1 h))] at HST1
      have HV : Hid (okG (MvP (n : Int) l all xs ys) = false) := okG_no fun h => h1 h.1.1
      have HV2 : Hid (okG (MvOk (n : Int) l xs ys) = false) := okG_no fun h => h1 h.1
      clear h1 hgd
      go_enter Tryd.func10, Tryd.ntmps10
      go_wp2_with fail
      refine HGD.out.mono ?_
      rintro e w1 ⟨rfl, b1⟩
      have HE1 := Lib.hid (btrans HB0.out b1)
      have HG1 := Lib.hid (HG0.out.below b1 HG0.out.lt)
      clear p0 p1 b1 HGD HB0 HG0
      obtain ⟨p0, p1, -, -⟩ := HG1.out.two
      go_wp2_with fail
      refine (HST1.out w1 HE1.out).mono ?_
      rintro e w2 ⟨rfl, b2⟩
      clear p0 p1
      go_wp2_with fail
      go_ret2
      rw [HV.out, HV2.out]
      exact ⟨rfl, btrans HE1.out b2⟩
  · rw [goodB_no hgd] at HGD
    have HV : Hid (okG (MvP s l all xs ys) = false) := okG_no fun h => hgd h.1.1.1
    have HV2 : Hid (okG (MvOk s l xs ys) = false) := okG_no fun h => hgd h.1.1
    clear hgd
    go_enter Tryd.func10, Tryd.ntmps10
    go_wp2_with fail
    refine HGD.out.mono ?_
    rintro e w1 ⟨rfl, b1⟩
    have HE1 := Lib.hid (btrans HB0.out b1)
    clear p0 p1 b1
    go_wp2_with fail
    go_ret2
    rw [HV.out, HV2.out]
    exact ⟨rfl, HE1.out⟩
end Go.Proofs.YthpodbhiopnnbaaDoor.ups

/- The contracts of slices.Index, slices.Contains over integers, and of slices.IndexFunc, slices.ContainsFunc over slices of integers. -/
namespace Go.Proofs.YthpodbhiopnnbaaDoor.idx
open Go.RowKit P2 words edges ints fns func gridr
set_option linter.unusedVariables false

def idxE (tl : List Int) (x : Int) : Int := idxF (fun y => y == x) tl
set_option maxHeartbeats 1000000 in
theorem index_any (u : Value) (xs : List Int) (x : Int) (w : World) (hu : Ints w u xs) (hxl : xs.length ≤ 1048576) :
    Calls Tryd.prog 105 #[u, .int .i64 x] w fun e w' => e = .returned (.int .i64 (idxE xs x)) ∧ w = w' := by
  obtain ⟨A2, c2, rfl, hc⟩ := hu.form
  have HC := Lib.hid hc
  clear hu hc
  go_enter Tryd.func105, Tryd.ntmps105
  go_wp2_with fail
  go_loop [8] (fun i => ∃ k : Nat, k ≤ xs.length ∧ i = .int .i64 (k : Int) ∧ Hid (∀ j y, j < k → xs[j]? = some y → (y == x) = false)) (fun i => xs.length - (intOf i).toNat)
  case atStart => exact ⟨0, by omega, rfl, fun j e h => by omega⟩
  case round =>
    obtain ⟨k, hk, rfl, hno⟩ := hrel
    by_cases hlt : k < xs.length
    · have hlt' : (k : Int) < (xs.length : Int) := by omega
      obtain ⟨y, hy⟩ : ∃ y, xs[k]? = some y := ⟨_, List.getElem?_eq_getElem hlt⟩
      obtain ⟨g, o, rfl, c0⟩ := HC.out k y hy
      cases hp : (y == x) with
      | true =>
        have HN := Lib.hid (idxF_at (p := fun y => y == x) hno.out hy hp)
        have hp2 : (x == y) = true := by rw [BEq.comm]; exact hp
        clear hy hp
        go_wp2_with fail
        go_ret
        exact ⟨ret_int HN.out.symm, rfl⟩
      | false =>
        have HK := Lib.hid (func.no_succ (p := fun y => y == x) hno.out hy hp)
        have hp2 : (x == y) = false := by rw [BEq.comm]; exact hp
        clear hy hp
        go_wp2_with fail
        go_round
        case rel => exact ⟨k + 1, by omega, by go_num, HK⟩
        case measure => simp [intOf]; omega
    · obtain rfl : k = xs.length := by omega
      have HN := Lib.hid (idxF_none hno.out)
      go_wp2_with fail
      go_ret
      exact ⟨ret_int HN.out.symm, rfl⟩
theorem idx_mem (xs : List Int) (x : Int) : decide (0 ≤ idxE xs x) = decide (x ∈ xs) := by
  unfold idxE
  rw [idxF_any]
  by_cases h : x ∈ xs
  · rw [decide_eq_true h, List.any_eq_true]; exact ⟨x, h, by simp⟩
  · rw [decide_eq_false h, Bool.eq_false_iff]
    intro hh
    obtain ⟨y, hy, e⟩ := List.any_eq_true.1 hh
    have : y = x := by simpa using e
    subst this
    exact h hy
theorem contains_any (u : Value) (xs : List Int) (x : Int) (w : World) (hu : Ints w u xs) (hxl : xs.length ≤ 1048576) :
    Calls Tryd.prog 85 #[u, .int .i64 x] w fun e w' => e = .returned (.bool (decide (x ∈ xs))) ∧ w = w' := by
  have HI := Lib.hid (index_any u xs x w hu hxl)
  have HM := Lib.hid (idx_mem xs x)
  clear hu
  generalize idxE xs x = k at *
  go_enter Tryd.func85, Tryd.ntmps85
  go_wp2_with fail
  refine HI.out.mono ?_
  rintro e w' ⟨rfl, rfl⟩
  go_wp2_with fail
  go_ret
  exact ⟨ret_bool HM.out, rfl⟩
/-- a function value that answers for the rows of a slice of slices, in every world that goes on from w -/
structure FnG (w : World) (f : FuncId) (caps : Array Value) (us : List Value) (xs : List (List Int)) (p : List Int → Bool) : Prop where
  enter : ∀ (args : Array Value) (W : World), (callFunc f args).run Tryd.prog W = .ok (.enter f args) W
  call : ∀ W, Below w.heap.size w W → ∀ (k : Nat) u x, us[k]? = some u → xs[k]? = some x → Calls Tryd.prog f (#[u] ++ caps) W fun e W' => e = .returned (.bool (p x)) ∧ Below W.heap.size W W'
end Go.Proofs.YthpodbhiopnnbaaDoor.idx

/- Guards: the contracts of the program's isAttack and GuardAnswers. -/
namespace Go.Proofs.YthpodbhiopnnbaaDoor.ups
open Go.RowKit P2 words edges ints owns good adjs fns sets rets covs bags bitsI func lists least grid balls times idx
set_option linter.unusedVariables false

/-- an attack at a node without a guard -/
def AtOk (s : Int) (l : List Ed) (xs : List Int) (x : Int) : Prop := SetOk s l xs ∧ (0 ≤ x ∧ x < s) ∧ x ∉ xs
/-- the sets that answer it -/
def gaN (s : Int) (l : List Ed) (all : Bool) (xs : List Int) (x : Int) : List Nat := (setsK s.toNat xs.length).filter (ansB l all x.toNat (codeL xs))
set_option maxHeartbeats 4000000 in
set_option maxRecDepth 100000 in
theorem isAttack_any (s x : Int) (v u : Value) (l : List Ed) (xs : List Int) (w : World) (h : Edges w v l) (hl : l.length ≤ 1048576) (hu : Ints w u xs) (hxl : xs.length ≤ 1048576) :
    Calls Tryd.prog 49 #[.agg #[.int .i64 s, v], u, .int .i64 x] w fun e w' => e = .returned (.bool (okG (AtOk s l xs x))) ∧ Below w.heap.size w w' := by
  obtain ⟨A, c, rfl, -⟩ := h.form
  have H := Lib.hid h
  have HU := Lib.hid hu
  have b0 : Below w.heap.size w (w.alloc (.cells #[.int .i64 s, .slice A l.length c] 29)) := (Below.refl _ _).alloc (Nat.le_refl _) _
  have g0 := Blk.new w 29 #[.int .i64 s, .slice A l.length c]
  obtain ⟨p0, p1, -, -⟩ := g0.two
  have HS := Lib.hid (hasSet_any s (.slice A l.length c) u l xs _ (h.below b0) hl (hu.below b0) hxl)
  have HB0 := Lib.hid b0
  have HG0 := Lib.hid g0
  have HN := Lib.hid (fun (W : World) (hW : Below w.heap.size w W) => hasNodes_any s (.slice A l.length c) (.slice (some ⟨W.heap.size, 0, none⟩) 1 1) l [x] (W.alloc (.cells #[.int .i64 x] 3)) (H.out.below (hW.alloc hW.size _)) hl (one_reads (Blk.new W 3 #[.int .i64 x])) (by simp))
  have HC := Lib.hid (fun (W : World) (hW : Below w.heap.size w W) => contains_any u xs x W (HU.out.below hW) hxl)
  clear h hu b0 g0
  by_cases hso : SetOk s l xs
  · rw [okG_yes hso] at HS
    by_cases hx : 0 ≤ x ∧ x < s
    · have hnb : nodesB s l [x] = true := nodesB_iff.2 ⟨hso.1, fun y hy => by rw [List.mem_singleton.1 hy]; exact hx⟩
      rw [hnb] at HN
      have HV : Hid (okG (AtOk s l xs x) = !decide (x ∈ xs)) := by
        show _ = _
        rw [Bool.eq_iff_iff, okG_iff, Bool.not_eq_true', decide_eq_false_iff_not]
        exact ⟨fun h => h.2.2, fun h => ⟨hso, hx, h⟩⟩
      clear hso hx hnb
      generalize decide (x ∈ xs) = bb at *
      go_enter Tryd.func49, Tryd.ntmps49
      go_wp2_with fail
      refine HS.out.mono ?_
      rintro e w1 ⟨rfl, b1⟩
      have HE1 := Lib.hid (btrans HB0.out b1)
      have HG1 := Lib.hid (HG0.out.below b1 HG0.out.lt)
      have HN1 := Lib.hid (HN.out w1 HE1.out)
      clear p0 p1 b1
      obtain ⟨p0, p1, -, -⟩ := HG1.out.two
      go_wp2_with fail
      refine HN1.out.mono ?_
      rintro e w2 ⟨rfl, b2⟩
      have HE2 := Lib.hid (HE1.out.trans ((b2.mono (by rw [World.size_alloc]; exact Nat.le_trans HE1.out.size (Nat.le_succ _)) : Below w.heap.size _ _) |> fun h_ => (((Below.refl w.heap.size w1).alloc HE1.out.size _).trans h_)))
      clear p0 p1 b2
      go_wp2_with fail
      refine (HC.out w2 HE2.out).mono ?_
      rintro e w' ⟨rfl, rfl⟩
      go_wp2_with fail
      go_ret
      rw [HV.out]
      exact ⟨rfl, HE2.out⟩
    · have hnb : nodesB s l [x] = false := nodesB_no fun h => hx (h.2 x (by simp))
      rw [hnb] at HN
      have HV : Hid (okG (AtOk s l xs x) = false) := okG_no fun h => hx h.2.1
      clear hso hx hnb
      go_enter Tryd.func49, Tryd.ntmps49
      go_wp2_with fail
      refine HS.out.mono ?_
      rintro e w1 ⟨rfl, b1⟩
      have HE1 := Lib.hid (btrans HB0.out b1)
      have HG1 := Lib.hid (HG0.out.below b1 HG0.out.lt)
      have HN1 := Lib.hid (HN.out w1 HE1.out)
      clear p0 p1 b1
      obtain ⟨p0, p1, -, -⟩ := HG1.out.two
      go_wp2_with fail
      refine HN1.out.mono ?_
      rintro e w2 ⟨rfl, b2⟩
      have HE2 := Lib.hid (HE1.out.trans ((b2.mono (by rw [World.size_alloc]; exact Nat.le_trans HE1.out.size (Nat.le_succ _)) : Below w.heap.size _ _) |> fun h_ => (((Below.refl w.heap.size w1).alloc HE1.out.size _).trans h_)))
      clear p0 p1 b2
      go_wp2_with fail
      go_ret
      rw [HV.out]
      exact ⟨rfl, HE2.out⟩
  · rw [okG_no hso] at HS
    have HV : Hid (okG (AtOk s l xs x) = false) := okG_no fun h => hso h.1
    clear hso
    go_enter Tryd.func49, Tryd.ntmps49
    go_wp2_with fail
    refine HS.out.mono ?_
    rintro e w1 ⟨rfl, b1⟩
    have HE1 := Lib.hid (btrans HB0.out b1)
    clear p0 p1 b1
    go_wp2_with fail
    go_ret
    rw [HV.out]
    exact ⟨rfl, HE1.out⟩
set_option maxHeartbeats 4000000 in
set_option maxRecDepth 100000 in
theorem implGa_any (s x : Int) (all : Bool) (v u : Value) (l : List Ed) (xs : List Int) (w : World) (hE : Env w) (h : Edges w v l) (hl : l.length ≤ 1048576) (hu : Ints w u xs) (hxl : xs.length ≤ 1048576) :
    Calls Tryd.prog 17 #[.agg #[.int .i64 s, v], u, .int .i64 x, .bool all] w (RetGr w (AtOk s l xs x) (rowN (gaN s l all xs x))) := by
  obtain ⟨A, c, rfl, -⟩ := h.form
  obtain ⟨A2, c2, rfl, -⟩ := hu.form
  have H := Lib.hid h
  have HU := Lib.hid hu
  have HEN := Lib.hid hE
  have b0 : Below w.heap.size w (w.alloc (.cells #[.int .i64 s, .slice A l.length c] 29)) := (Below.refl _ _).alloc (Nat.le_refl _) _
  have g0 := Blk.new w 29 #[.int .i64 s, .slice A l.length c]
  obtain ⟨p0, p1, -, -⟩ := g0.two
  have HS := Lib.hid (isAttack_any s x (.slice A l.length c) (.slice A2 xs.length c2) l xs _ (h.below b0) hl (hu.below b0) hxl)
  have HB0 := Lib.hid b0
  have HG0 := Lib.hid g0
  clear h hu b0 g0 hE
  by_cases hok : AtOk s l xs x
  · rw [okG_yes hok] at HS
    have HOK := Lib.hid hok
    have h0 := hok.1.1.1
    have h8 := hok.1.1.2.1
    have hx0 := hok.2.1.1
    have hx1 := hok.2.1.2
    obtain ⟨n, rfl⟩ : ∃ n : Nat, s = (n : Int) := ⟨s.toNat, by omega⟩
    obtain ⟨y, rfl⟩ : ∃ y : Nat, x = (y : Int) := ⟨x.toNat, by omega⟩
    have hn : n ≤ 8 := by omega
    have hy : y ≤ 8 := by omega
    have hk8 : xs.length ≤ 8 := Nat.le_trans (asc_len hok.1.2.2 hok.1.2.1) hn
    have HV : Hid (gaN (n : Int) l all xs (y : Int) = (setsK n xs.length).filter (ansB l all y (codeL xs))) := by show _ = _; unfold gaN; rw [Int.toNat_natCast, Int.toNat_natCast]
    have HWI := Lib.hid (fun (W : World) (hW : Below w.heap.size w W) => watchIn_any n xs.length all (.slice A l.length c) l W (H.out.below hW) hl hok.1.1 hn hk8)
    have HBO := Lib.hid (fun (W : World) (hW : Below w.heap.size w W) => bitsOf_any (.slice A2 xs.length c2) xs W (HU.out.below hW) hxl (fun x hx => by have := hok.1.2.1 x hx; omega))
    have HAN := Lib.hid (fun (W : World) (vc vs : Value) (hW : Below w.heap.size w W) (hc : Nums W vc (clos l n)) (hs : Nums W vs (setsK n xs.length)) => answers_any n (codeL xs) y all vc vs (setsK n xs.length) l W (HEN.out.next hW) hc hs (fun c hc => ((setsK_mem hn hk8).1 hc).1) (by have := setsK_len hn hk8; omega) hok.1.1 hn (code_set hok.1) hy)
    have HM8 : Hid (∀ c ∈ (setsK n xs.length).filter (ansB l all y (codeL xs)), c < 256) := fun c hc => Nat.lt_of_lt_of_le ((setsK_mem hn hk8).1 (List.mem_filter.1 hc).1).1 (pow_le hn)
    have hfl : ((setsK n xs.length).filter (ansB l all y (codeL xs))).length ≤ 1048576 := Nat.le_trans (List.length_filter_le _ _) (by have := setsK_len hn hk8; omega)
    clear hok
    generalize (setsK n xs.length).filter (ansB l all y (codeL xs)) = F at *
    generalize codeL xs = a at *
    go_enter Tryd.func17, Tryd.ntmps17
    go_wp2_with fail
    refine HS.out.mono ?_
    rintro e w1 ⟨rfl, b1⟩
    have HE1 := Lib.hid (btrans HB0.out b1)
    have HG1 := Lib.hid (HG0.out.below b1 HG0.out.lt)
    clear p0 p1 b1
    obtain ⟨p0, p1, -, -⟩ := HG1.out.two
    go_wp2_with fail
    refine (HWI.out w1 HE1.out).mono ?_
    rintro e w2 ⟨A3, c3, A4, c4, rfl, i3, o4, b2⟩
    have HE2 := Lib.hid (btrans HE1.out b2)
    have HAN2 := Lib.hid (HAN.out w2 _ _ HE2.out i3 (show Nums w2 _ _ from Reads.of_own o4))
    clear p0 p1 b2 i3 o4
    go_wp2_with fail
    refine (HBO.out w2 HE2.out).mono ?_
    rintro e w' ⟨rfl, rfl⟩
    go_wp2_with fail
    refine HAN2.out.mono ?_
    rintro e w3 ⟨A5, c5, rfl, o5, b3⟩
    have HE3 := Lib.hid (btrans HE2.out b3)
    have HRS := Lib.hid (resultsNd_any _ F w3 (show Nums w3 _ _ from Reads.of_own o5) HM8.out hfl)
    clear b3 o5
    go_wp2_with fail
    refine HRS.out.mono ?_
    rintro e w4 ⟨A6, c6, us, rfl, o6, b4⟩
    go_wp2_with fail
    go_ret2
    rw [HV.out]
    have o7 := o6.base HE3.out.size
    rw [← rowN_len F]
    exact RetGr.yes HOK.out o7 (btrans HE3.out b4)
  · rw [okG_no hok] at HS
    have HNO := Lib.hid hok
    clear hok
    go_enter Tryd.func17, Tryd.ntmps17
    go_wp2_with fail
    refine HS.out.mono ?_
    rintro e w1 ⟨rfl, b1⟩
    have HE1 := Lib.hid (btrans HB0.out b1)
    clear p0 p1 b1
    go_wp2_with fail
    go_ret2
    exact RetGr.nil HNO.out HE1.out
end Go.Proofs.YthpodbhiopnnbaaDoor.ups
