/- Lists of cops: slices.IsSorted, isCops, l4Field, l4Cops. -/
import Derived.Handy
import Derived.Test.YtpeobnmfndelhaaK08
import Derived.Test.YtpeobnmfndelhaaK04
import Derived.Deep.DeepCutAuto
import Derived.Deep.QuietTactic
import Derived.BigQuiet
import Derived.Deep.RegionHeld3
namespace Go.Proofs.Ytpeobnmfndelhaa.cops
open Go.RowKit P2 words edges ints good adjs fns rets sets covs balls
set_option linter.unusedVariables false

theorem isNaN_any (x : Int) (w : World) : Calls Try.prog 161 #[.int .i64 x] w fun e w' => e = .returned (.bool false) ∧ w = w' := by
  have h : (x != x) = false := by simp
  go_enter Try.func161, Try.ntmps161
  go_wp2_with fail
  go_ret
  exact ⟨by simp, rfl⟩
theorem less_any (x y : Int) (w : World) : Calls Try.prog 153 #[.int .i64 x, .int .i64 y] w fun e w' => e = .returned (.bool (decide (x < y))) ∧ w = w' := by
  have HX := Lib.hid (isNaN_any x w)
  go_enter Try.func153, Try.ntmps153
  go_wp2_with fail
  refine HX.out.mono ?_
  rintro e w' ⟨rfl, rfl⟩
  go_wp2_with fail
  go_ret
  exact ⟨rfl, rfl⟩
theorem less_yes (x y : Int) (w : World) (h : x < y) : Calls Try.prog 153 #[.int .i64 x, .int .i64 y] w fun e w' => e = .returned (.bool true) ∧ w = w' := by
  have h_ := less_any x y w
  rw [decide_eq_true h] at h_
  exact h_
theorem less_no (x y : Int) (w : World) (h : ¬ x < y) : Calls Try.prog 153 #[.int .i64 x, .int .i64 y] w fun e w' => e = .returned (.bool false) ∧ w = w' := by
  have h_ := less_any x y w
  rw [decide_eq_false h] at h_
  exact h_
set_option maxHeartbeats 2000000 in
set_option maxRecDepth 100000 in
theorem sorted_any (u : Value) (xs : List Int) (w : World) (hu : Ints w u xs) (hxl : xs.length ≤ 1048576) :
    Calls Try.prog 115 #[u] w fun e w' => e = .returned (.bool (okG (Up xs))) ∧ Below w.heap.size w w' := by
  obtain ⟨A2, c2, rfl, hc⟩ := hu.form
  have HU := Lib.hid hu
  have HC := Lib.hid hc
  clear hu hc
  by_cases h0 : xs.length = 0
  · have HT : Hid (okG (Up xs) = true) := okG_yes (by rw [List.eq_nil_of_length_eq_zero h0]; exact List.Pairwise.nil)
    have h0' : (xs.length : Int) = 0 := by omega
    rw [HT.out]
    go_enter Try.func115, Try.ntmps115
    go_wp2_with fail
    go_loopg [3] 0 (fun g i wr => i = .int .i64 (-1) ∧ wr = w)
    case atStart => exact ⟨rfl, rfl⟩
    case round =>
      obtain ⟨rfl, rfl⟩ := hrel
      go_wp2_with fail
      go_ret
      exact ⟨rfl, Below.refl _ _⟩
  · have hsub : IntKind.i64.wrap ((xs.length : Int) - 1) = ((xs.length - 1 : Nat) : Int) := by rw [IntWalk.i64_in _ (by omega)]; omega
    go_enter Try.func115, Try.ntmps115
    go_wp2_with fail
    go_loopg [3] (xs.length - 1) (fun g i wr => g + 1 ≤ xs.length ∧ i = .int .i64 (g : Int) ∧ Hid (UpFrom xs g) ∧ Below w.heap.size w wr)
    case atStart => exact ⟨by omega, by first | rfl | go_num | (congr 1; omega), UpFrom.start xs _ (by omega), Below.refl _ _⟩
    case round =>
      obtain ⟨hg1, rfl, hup, hB⟩ := hrel
      have HB := Lib.hid hB
      cases gk with
      | zero =>
        have HT : Hid (okG (Up xs) = true) := okG_yes hup.out.up
        clear hB
        go_wp2_with fail
        go_ret
        rw [HT.out]
        exact ⟨rfl, HB.out⟩
      | succ k =>
        obtain ⟨y, hy⟩ : ∃ y, xs[k + 1]? = some y := ⟨_, List.getElem?_eq_getElem (by omega)⟩
        obtain ⟨x, hx⟩ : ∃ x, xs[k]? = some x := ⟨_, List.getElem?_eq_getElem (by omega)⟩
        obtain ⟨g, o, rfl, c1⟩ := HC.out _ _ hy
        obtain ⟨g', o', hf, c0⟩ := HC.out _ _ hx
        obtain ⟨rfl, rfl⟩ : g = g' ∧ o = o' := by simpa using hf
        have q1 := nearv.cell_keep c1 hB
        have q0 := nearv.cell_keep c0 hB
        have hk1 : ((k + 1 : Nat) : Int) = (k : Int) + 1 := by omega
        have hk2 : (k : Int) + 1 < (xs.length : Int) := by omega
        have hk3 : (k : Int) < (xs.length : Int) := by omega
        have hk4 : (0 : Int) < (k : Int) + 1 := by omega
        have hk5 : (0 : Int) ≤ (k : Int) + 1 := by omega
        have HBQ := Lib.hid (fun (nq : Nat) => below_drewN hB nq)
        by_cases hyx : y < x
        · have HL := Lib.hid (fun (nq : Nat) => less_yes y x (wr.drewN nq) hyx)
          have HT : Hid (okG (Up xs) = false) := okG_no (not_up hx hy hyx)
          clear hB hx hy hyx c0 c1 hf
          rw [hk1]
          go_wp2_with fail
          go_quiet ((go_at_call 153; exact quiet_left (HL.out _)))
          go_wp2_with fail
          go_ret
          rw [HT.out]
          exact ⟨rfl, HBQ.out _⟩
        · have HL := Lib.hid (fun (nq : Nat) => less_no y x (wr.drewN nq) hyx)
          have HN : Hid (UpFrom xs k) := hup.out.pred (fun a b ha hb => by
            rw [hx] at ha
            rw [hy] at hb
            cases ha
            cases hb
            omega)
          clear hB hx hy hyx c0 c1 hf
          rw [hk1]
          go_wp2_with fail
          go_quiet ((go_at_call 153; exact quiet_left (HL.out _)))
          go_wp2_with fail
          go_roundg k
          case measure => omega
          case rel => exact ⟨by omega, by go_num, HN, HBQ.out _⟩
set_option maxHeartbeats 1000000 in
theorem isCops_any (s : Int) (v u : Value) (l : List Ed) (tl : List Int) (w : World) (h : Edges w v l) (hl : l.length ≤ 1048576) (hu : Ints w u tl) (htl : tl.length ≤ 1048576) :
    Calls Try.prog 54 #[.agg #[.int .i64 s, v], u] w fun e w' => e = .returned (.bool (okG (CopsOk s l tl))) ∧ Below w.heap.size w w' := by
  obtain ⟨A, c, rfl, -⟩ := h.form
  obtain ⟨A2, c2, rfl, -⟩ := hu.form
  have b0 : Below w.heap.size w (w.alloc (.cells #[.int .i64 s, .slice A l.length c] 30)) := (Below.refl _ _).alloc (Nat.le_refl _) _
  have g0 := Blk.new w 30 #[.int .i64 s, .slice A l.length c]
  have HS := Lib.hid (sorted_any _ tl _ (hu.below b0) htl)
  have HN := Lib.hid (fun (W : World) (hW : Below w.heap.size w W) => hasNodes_any s (.slice A l.length c) (.slice A2 tl.length c2) l tl W (h.below hW) hl (hu.below hW) htl)
  clear h hu
  by_cases h1 : 1 ≤ tl.length
  · have d1 : decide ((1 : Int) ≤ (tl.length : Int)) = true := decide_eq_true (by omega)
    have c1 : (1 : Int) ≤ (tl.length : Int) := by omega
    by_cases h3 : tl.length ≤ 3
    · have d3 : decide ((tl.length : Int) ≤ 3) = true := decide_eq_true (by omega)
      have c3 : (tl.length : Int) ≤ 3 := by omega
      by_cases hup : Up tl
      · rw [okG_yes hup] at HS
        have HV : Hid (nodesB s l tl = okG (CopsOk s l tl)) := by
          show _ = _
          by_cases hg : CopsOk s l tl
          · rw [okG_yes hg]; exact nodesB_iff.2 ⟨hg.1, hg.2.2.1⟩
          · rw [okG_no hg]
            exact nodesB_no fun hh => hg ⟨hh.1, ⟨h1, h3⟩, hh.2, hup⟩
        clear hup h1 h3
        rw [← HV.out]
        clear HV
        generalize nodesB s l tl = b at *
        go_enter Try.func54, Try.ntmps54
        go_wp2_with fail
        refine HS.out.mono ?_
        rintro e w1 ⟨rfl, b1⟩
        have e1 := btrans b0 b1
        have g1 := g0.below b1 g0.lt
        obtain ⟨p0, p1, -, -⟩ := g1.two
        have HN1 := Lib.hid (HN.out w1 e1)
        clear HS HN b0 b1 g0 g1
        go_wp2_with fail
        refine HN1.out.mono ?_
        rintro e w2 ⟨rfl, b2⟩
        have e2 := btrans e1 b2
        go_wp2_with fail
        go_ret
        exact ⟨rfl, e2⟩
      · rw [okG_no hup] at HS
        rw [okG_no (show ¬ CopsOk s l tl from fun hh => hup hh.2.2.2)]
        clear hup h1 h3 HN
        go_enter Try.func54, Try.ntmps54
        go_wp2_with fail
        refine HS.out.mono ?_
        rintro e w1 ⟨rfl, b1⟩
        have e1 := btrans b0 b1
        go_wp2_with fail
        go_ret
        exact ⟨rfl, e1⟩
    · have d3 : decide ((tl.length : Int) ≤ 3) = false := decide_eq_false (by omega)
      have c3 : ¬ (tl.length : Int) ≤ 3 := by omega
      rw [okG_no (show ¬ CopsOk s l tl from fun hh => h3 hh.2.1.2)]
      clear HS HN h1 h3
      go_enter Try.func54, Try.ntmps54
      go_wp2_with fail
      go_ret
      exact ⟨rfl, b0⟩
  · have d1 : decide ((1 : Int) ≤ (tl.length : Int)) = false := decide_eq_false (by omega)
    have c1 : ¬ (1 : Int) ≤ (tl.length : Int) := by omega
    rw [okG_no (show ¬ CopsOk s l tl from fun hh => h1 hh.2.1.1)]
    clear HS HN h1
    go_enter Try.func54, Try.ntmps54
    go_wp2_with fail
    go_ret
    exact ⟨rfl, b0⟩
def FieldP (s : Int) (l : List Ed) (k : Int) : Prop := P2.Good s l ∧ 0 < s ∧ 1 ≤ k ∧ k ≤ 3
theorem l4Field_any (s k : Int) (v : Value) (l : List Ed) (w : World) (h : Edges w v l) (hl : l.length ≤ 1048576) (hs1 : -9223372036854775808 ≤ s) (hs2 : s ≤ 9223372036854775807) :
    Calls Try.prog 50 #[.agg #[.int .i64 s, v], .int .i64 k] w fun e w' => e = .returned (.bool (okG (FieldP s l k))) ∧ Below w.heap.size w w' := by
  obtain ⟨A, c, rfl, -⟩ := h.form
  have b0 : Below w.heap.size w (w.alloc (.cells #[.int .i64 s, .slice A l.length c] 30)) := (Below.refl _ _).alloc (Nat.le_refl _) _
  have g0 := Blk.new w 30 #[.int .i64 s, .slice A l.length c]
  have HG := Lib.hid (l2Good_any s _ l _ (h.below b0) hl hs1 hs2)
  clear h
  by_cases hgd : P2.Good s l
  · rw [goodB_yes hgd] at HG
    by_cases hs : 0 < s
    · have HV : Hid (okG (FieldP s l k) = inB k 1 3) := by
        show _ = _
        by_cases hk : 1 ≤ k ∧ k ≤ 3
        · rw [okG_yes (show FieldP s l k from ⟨hgd, hs, hk⟩)]; simp [inB, hk]
        · rw [okG_no (show ¬ FieldP s l k from fun hh => hk hh.2.2)]; symm; simp [inB]; omega
      have d0 : decide (0 < s) = true := decide_eq_true hs
      rw [HV.out]
      clear hgd HV
      go_enter Try.func50, Try.ntmps50
      go_wp2_with fail
      refine HG.out.mono ?_
      rintro e w1 ⟨rfl, b1⟩
      have e1 := btrans b0 b1
      have g1 := g0.below b1 g0.lt
      obtain ⟨p0, p1, -, -⟩ := g1.two
      clear HG b0 b1 g0 g1
      go_wp2_with fail
      refine (l1In_any k 1 3 w1).mono ?_
      rintro e w' ⟨rfl, rfl⟩
      go_wp2_with fail
      go_ret
      exact ⟨rfl, e1⟩
    · have d0 : decide (0 < s) = false := decide_eq_false hs
      rw [okG_no (show ¬ FieldP s l k from fun hh => hs hh.2.1)]
      clear hgd
      go_enter Try.func50, Try.ntmps50
      go_wp2_with fail
      refine HG.out.mono ?_
      rintro e w1 ⟨rfl, b1⟩
      have e1 := btrans b0 b1
      have g1 := g0.below b1 g0.lt
      obtain ⟨p0, p1, -, -⟩ := g1.two
      clear HG b0 b1 g0 g1
      go_wp2_with fail
      go_ret
      exact ⟨rfl, e1⟩
  · rw [goodB_no hgd] at HG
    rw [okG_no (show ¬ FieldP s l k from fun hh => hgd hh.1)]
    clear hgd
    go_enter Try.func50, Try.ntmps50
    go_wp2_with fail
    refine HG.out.mono ?_
    rintro e w1 ⟨rfl, b1⟩
    have e1 := btrans b0 b1
    clear HG b0 b1 g0
    go_wp2_with fail
    go_ret
    exact ⟨rfl, e1⟩
/-- nodes in order -/
def CopP (n : Nat) (tl : List Int) : Prop := (∀ x ∈ tl, 0 ≤ x ∧ x < (n : Int)) ∧ Up tl
def CopTo (n : Nat) (tl : List Int) (k : Nat) : Prop := (∀ j x, j < k → tl[j]? = some x → 0 ≤ x ∧ x < (n : Int)) ∧ ∀ j x y, j + 1 < k → tl[j]? = some x → tl[j + 1]? = some y → x ≤ y
theorem CopTo.all {n : Nat} {tl : List Int} (h : CopTo n tl tl.length) : CopP n tl :=
  ⟨fun x hx => by
    obtain ⟨j, hj⟩ := List.mem_iff_getElem?.1 hx
    exact h.1 j x (List.getElem?_eq_some_iff.1 hj).1 hj,
   UpFrom.up fun j x y _ hx hy => h.2 j x y (List.getElem?_eq_some_iff.1 hy).1 hx hy⟩
theorem CopTo.succ {n : Nat} {tl : List Int} {k : Nat} {x : Int} (h : CopTo n tl k) (hx : tl[k]? = some x) (h1 : 0 ≤ x ∧ x < (n : Int)) (h2 : ∀ m y, k = m + 1 → tl[m]? = some y → y ≤ x) : CopTo n tl (k + 1) :=
  ⟨fun j y hj hy => by
    by_cases e : j = k
    · subst e; rw [hx] at hy; cases hy; exact h1
    · exact h.1 j y (by omega) hy,
   fun j a b hj ha hb => by
    by_cases e : j + 1 = k
    · subst e; rw [hx] at hb; cases hb; exact h2 j a rfl ha
    · exact h.2 j a b (by omega) ha hb⟩
set_option maxHeartbeats 4000000 in
set_option maxRecDepth 100000 in
theorem l4Cops_any (n : Nat) (v u : Value) (l : List Ed) (tl : List Int) (w : World) (h : Edges w v l) (hl : l.length ≤ 1048576) (hu : Ints w u tl) (htl : tl.length ≤ 1048576) (hn8 : n ≤ 8) :
    Calls Try.prog 51 #[.agg #[.int .i64 (n : Int), v], u] w fun e w' => e = .returned (.bool (okG (CopP n tl))) ∧ Below w.heap.size w w' := by
  obtain ⟨A, c, rfl, -⟩ := h.form
  obtain ⟨A2, c2, rfl, hc2⟩ := hu.form
  have H := Lib.hid h
  have HC2 := Lib.hid hc2
  have HB0 : Hid (Below w.heap.size w (w.alloc (.cells #[.int .i64 (n : Int), .slice A l.length c] 30))) := (Below.refl _ _).alloc (Nat.le_refl _) _
  have HG0 := Lib.hid (Blk.new w 30 #[.int .i64 (n : Int), .slice A l.length c])
  have HT0 : Hid (CopTo n tl 0) := ⟨fun j x hj => by omega, fun j x y hj => by omega⟩
  have hn0 : (0 : Int) ≤ (n : Int) := by omega
  have hn8' : (n : Int) ≤ 8 := by omega
  clear h hu hc2
  go_enter Try.func51, Try.ntmps51
  go_wp2_with fail
  go_loopg [5] tl.length (fun g i wr => ∃ k : Nat, k + g = tl.length ∧ i = .int .i64 (k : Int) ∧ Hid (CopTo n tl k) ∧ Blk wr w.heap.size 30 #[.int .i64 (n : Int), .slice A l.length c] ∧ Below w.heap.size w wr)
  case atStart => exact ⟨0, by omega, rfl, HT0, HG0.out, HB0.out⟩
  case round =>
    clear HB0 HG0 HT0
    obtain ⟨k, hkg, rfl, hto, hgb, hB⟩ := hrel
    obtain ⟨p0, p1, -, -⟩ := hgb.two
    cases gk with
    | zero =>
      obtain rfl : k = tl.length := by omega
      have HV : Hid (okG (CopP n tl) = true) := okG_yes hto.out.all
      have HB := Lib.hid hB
      clear hgb hB hto p0 p1
      go_wp2_with fail
      go_ret
      rw [HV.out]
      exact ⟨rfl, HB.out⟩
    | succ g2 =>
      have hlt : k < tl.length := by omega
      have hlt' : (k : Int) < (tl.length : Int) := by omega
      obtain ⟨x, hx⟩ : ∃ x, tl[k]? = some x := ⟨_, List.getElem?_eq_getElem hlt⟩
      obtain ⟨ga, oa, rfl, c0⟩ := HC2.out k x hx
      have m0 : wr.cell? ⟨ga, oa + k, none⟩ = some (.int .i64 x) := nearv.cell_keep c0 hB
      have HNR := Lib.hid (l2Node_any (n : Int) x (.slice A l.length c) l wr.drew (H.out.below hB.drew) hn0 hn8')
      have HG := Lib.hid (hgb.drewN 1)
      have HBD : Hid (Below w.heap.size w wr.drew) := hB.drew
      clear c0
      by_cases hin : 0 ≤ x ∧ x < (n : Int)
      · have hI : inB x 0 ((n : Int) - 1) = true := by simp [inB]; omega
        rw [hI] at HNR
        cases k with
        | zero =>
          have HK := Lib.hid (hto.out.succ hx hin (fun m y hm => by omega))
          rw [Nat.add_zero] at m0
          clear hx hin hI hgb hB hto
          go_wp2_with fail
          refine wp_region_held_drew (S := (fun w' => w'.cell? ⟨w.heap.size, 0, none⟩ = some (.int .i64 (n : Int)) ∧ w'.cell? ⟨w.heap.size, 1, none⟩ = some (.slice A l.length c) ∧ w'.cell? ⟨ga, oa, none⟩ = some (.int .i64 x))) (by kernel_rfl) (by (try dsimp only); simp [*]) (fun hHeld => ?_)
          change wpAnyH _ _ _ _ _ _ #[false, false, false, false, false, false, false, false, false, false, false, false, false, false, false, false, false, false, false, false, false, false, false] _ _
          refine wpAnyH_take (i := 1) (oi := ⟨some 13, _, _, _, _, _⟩) (v := ?_) rfl (by kernel_rfl) (by kernel_rfl) (by kernel_rfl) (fun _ _ _ h => h) (Or.inl ⟨by rfl, ?_⟩) (by assumption) ?_
          rotate_left
          · (intro w hSw; (try dsimp only at hSw); go_simp; (try (with_reducible rfl)))
          try simp only [Act.put, List.setIfInBounds_toArray, List.set_cons_zero, List.set_cons_succ]
          refine wpAnyH_take (i := 2) (oi := ⟨some 14, _, _, _, _, _⟩) (v := ?_) rfl (by kernel_rfl) (by kernel_rfl) (by kernel_rfl) (fun _ _ _ h => h) (Or.inl ⟨by rfl, ?_⟩) (by assumption) ?_
          rotate_left
          · (intro w hSw; (try dsimp only at hSw); go_simp; (try (with_reducible rfl)))
          try simp only [Act.put, List.setIfInBounds_toArray, List.set_cons_zero, List.set_cons_succ]
          refine wpAnyH_take (i := 3) (oi := ⟨some 15, _, _, _, _, _⟩) (v := ?_) rfl (by kernel_rfl) (by kernel_rfl) (by kernel_rfl) (fun _ _ _ h => h) (Or.inl ⟨by rfl, ?_⟩) (by assumption) ?_
          rotate_left
          · (intro w hSw; (try dsimp only at hSw); go_simp; (try (with_reducible rfl)))
          try simp only [Act.put, List.setIfInBounds_toArray, List.set_cons_zero, List.set_cons_succ]
          refine wpAnyH_take (i := 0) (oi := ⟨some 12, _, _, _, _, _⟩) (v := ?_) rfl (by kernel_rfl) (by kernel_rfl) (by kernel_rfl) (fun _ _ _ h => h) (Or.inl ⟨by rfl, ?_⟩) (by assumption) ?_
          rotate_left
          · (intro w hSw; (try dsimp only at hSw); go_simp; (try (with_reducible rfl)))
          try simp only [Act.put, List.setIfInBounds_toArray, List.set_cons_zero, List.set_cons_succ]
          refine wpAnyH_take (i := 4) (oi := ⟨some 16, _, _, _, _, _⟩) (v := ?_) rfl (by kernel_rfl) (by kernel_rfl) (by kernel_rfl) (fun _ _ _ h => h) (Or.inl ⟨by rfl, ?_⟩) (by assumption) ?_
          rotate_left
          · (intro w hSw; (try dsimp only at hSw); go_simp; (try (with_reducible rfl)))
          try simp only [Act.put, List.setIfInBounds_toArray, List.set_cons_zero, List.set_cons_succ]
          refine wpAnyH_ready (rs := [5]) (by kernel_rfl) (by simp) ?_
          refine AllReadyH.cons (o := ⟨some 17, _, _, _, _, _⟩) rfl (fun K hK => ?_) AllReadyH.nil
          go_simp
          refine (keep4 HNR.out (p := ⟨w.heap.size, 0, none⟩) (q := ⟨w.heap.size, 1, none⟩) (r := ⟨ga, oa, none⟩) (s := ⟨ga, oa, none⟩) (a := .int .i64 (n : Int)) (b := .slice A l.length c) (c := .int .i64 x) (d := .int .i64 x) ?_ ?_ ?_ ?_).mono ?_; (simp [*]); (simp [*]); (simp [*]); (simp [*]); rintro e w4 ⟨rfl, k0, k1, k2, k3, b4⟩
          go_wp2_with fail
          refine hK.out _ _ (by (try dsimp only); simp [*]) (fun hHeld => ?_)
          clear hK K
          try simp only [List.setIfInBounds_toArray, List.set_cons_zero, List.set_cons_succ]
          refine wpAnyH_take (i := 6) (oi := ⟨some 18, _, _, _, _, _⟩) (v := ?_) rfl (by kernel_rfl) (by kernel_rfl) (by kernel_rfl) (fun _ _ _ h => h) (Or.inl ⟨by rfl, ?_⟩) (by assumption) ?_
          rotate_left
          · (intro w hSw; (try dsimp only at hSw); go_simp; (try (with_reducible rfl)))
          try simp only [Act.put, List.setIfInBounds_toArray, List.set_cons_zero, List.set_cons_succ]
          refine wpAnyH_take (i := 7) (oi := ⟨some 19, _, _, _, _, _⟩) (v := ?_) rfl (by kernel_rfl) (by kernel_rfl) (by kernel_rfl) (fun _ _ _ h => h) (Or.inl ⟨by rfl, ?_⟩) (by assumption) ?_
          rotate_left
          · (intro w hSw; (try dsimp only at hSw); go_simp; (try (with_reducible rfl)))
          try simp only [Act.put, List.setIfInBounds_toArray, List.set_cons_zero, List.set_cons_succ]
          refine wpAnyH_take (i := 8) (oi := ⟨some 20, _, _, _, _, _⟩) (v := ?_) rfl (by kernel_rfl) (by kernel_rfl) (by kernel_rfl) (fun _ _ _ h => h) (Or.inl ⟨by rfl, ?_⟩) (by assumption) ?_
          rotate_left
          · (intro w hSw; (try dsimp only at hSw); go_simp; (try (with_reducible rfl)))
          try simp only [Act.put, List.setIfInBounds_toArray, List.set_cons_zero, List.set_cons_succ]
          refine wpAnyH_take (i := 9) (oi := ⟨some 21, _, _, _, _, _⟩) (v := ?_) rfl (by kernel_rfl) (by kernel_rfl) (by kernel_rfl) (fun _ _ _ h => h) (Or.inl ⟨by rfl, ?_⟩) (by assumption) ?_
          rotate_left
          · (intro w hSw; (try dsimp only at hSw); go_simp; (try (with_reducible rfl)))
          try simp only [Act.put, List.setIfInBounds_toArray, List.set_cons_zero, List.set_cons_succ]
          refine wpAnyH_take (i := 10) (oi := ⟨some 22, _, _, _, _, _⟩) (v := ?_) rfl (by kernel_rfl) (by kernel_rfl) (by kernel_rfl) (fun _ _ _ h => h) (Or.inl ⟨by rfl, ?_⟩) (by assumption) ?_
          rotate_left
          · (intro w hSw; (try dsimp only at hSw); go_simp; (try (with_reducible rfl)))
          try simp only [Act.put, List.setIfInBounds_toArray, List.set_cons_zero, List.set_cons_succ]
          refine wpAnyH_take (i := 11) (oi := ⟨some 23, _, _, _, _, _⟩) (v := undef) rfl (by kernel_rfl) (by kernel_rfl) (by kernel_rfl) (fun _ _ _ h => h) (Or.inr ⟨by rfl, rfl⟩) (by assumption) ?_
          try simp only [Act.put, List.setIfInBounds_toArray, List.set_cons_zero, List.set_cons_succ]
          refine wpAnyH_take (i := 12) (oi := ⟨some 24, _, _, _, _, _⟩) (v := undef) rfl (by kernel_rfl) (by kernel_rfl) (by kernel_rfl) (fun _ _ _ h => h) (Or.inr ⟨by rfl, rfl⟩) (by assumption) ?_
          try simp only [Act.put, List.setIfInBounds_toArray, List.set_cons_zero, List.set_cons_succ]
          refine wpAnyH_take (i := 13) (oi := ⟨some 25, _, _, _, _, _⟩) (v := undef) rfl (by kernel_rfl) (by kernel_rfl) (by kernel_rfl) (fun _ _ _ h => h) (Or.inr ⟨by rfl, rfl⟩) (by assumption) ?_
          try simp only [Act.put, List.setIfInBounds_toArray, List.set_cons_zero, List.set_cons_succ]
          refine wpAnyH_take (i := 14) (oi := ⟨some 26, _, _, _, _, _⟩) (v := undef) rfl (by kernel_rfl) (by kernel_rfl) (by kernel_rfl) (fun _ _ _ h => h) (Or.inr ⟨by rfl, rfl⟩) (by assumption) ?_
          try simp only [Act.put, List.setIfInBounds_toArray, List.set_cons_zero, List.set_cons_succ]
          refine wpAnyH_take (i := 15) (oi := ⟨some 27, _, _, _, _, _⟩) (v := undef) rfl (by kernel_rfl) (by kernel_rfl) (by kernel_rfl) (fun _ _ _ h => h) (Or.inr ⟨by rfl, rfl⟩) (by assumption) ?_
          try simp only [Act.put, List.setIfInBounds_toArray, List.set_cons_zero, List.set_cons_succ]
          refine wpAnyH_take (i := 16) (oi := ⟨some 28, _, _, _, _, _⟩) (v := undef) rfl (by kernel_rfl) (by kernel_rfl) (by kernel_rfl) (fun _ _ _ h => h) (Or.inr ⟨by rfl, rfl⟩) (by assumption) ?_
          try simp only [Act.put, List.setIfInBounds_toArray, List.set_cons_zero, List.set_cons_succ]
          refine wpAnyH_take (i := 17) (oi := ⟨some 29, _, _, _, _, _⟩) (v := undef) rfl (by kernel_rfl) (by kernel_rfl) (by kernel_rfl) (fun _ _ _ h => h) (Or.inr ⟨by rfl, rfl⟩) (by assumption) ?_
          try simp only [Act.put, List.setIfInBounds_toArray, List.set_cons_zero, List.set_cons_succ]
          refine wpAnyH_take (i := 18) (oi := ⟨some 30, _, _, _, _, _⟩) (v := undef) rfl (by kernel_rfl) (by kernel_rfl) (by kernel_rfl) (fun _ _ _ h => h) (Or.inr ⟨by rfl, rfl⟩) (by assumption) ?_
          try simp only [Act.put, List.setIfInBounds_toArray, List.set_cons_zero, List.set_cons_succ]
          refine wpAnyH_take (i := 19) (oi := ⟨some 31, _, _, _, _, _⟩) (v := undef) rfl (by kernel_rfl) (by kernel_rfl) (by kernel_rfl) (fun _ _ _ h => h) (Or.inr ⟨by rfl, rfl⟩) (by assumption) ?_
          try simp only [Act.put, List.setIfInBounds_toArray, List.set_cons_zero, List.set_cons_succ]
          refine wpAnyH_take (i := 20) (oi := ⟨some 32, _, _, _, _, _⟩) (v := undef) rfl (by kernel_rfl) (by kernel_rfl) (by kernel_rfl) (fun _ _ _ h => h) (Or.inr ⟨by rfl, rfl⟩) (by assumption) ?_
          try simp only [Act.put, List.setIfInBounds_toArray, List.set_cons_zero, List.set_cons_succ]
          refine wpAnyH_take (i := 21) (oi := ⟨some 33, _, _, _, _, _⟩) (v := ?_) rfl (by kernel_rfl) (by kernel_rfl) (by kernel_rfl) (fun _ _ _ h => h) (Or.inl ⟨by rfl, ?_⟩) (by assumption) ?_
          rotate_left
          · (intro w hSw; (try dsimp only at hSw); go_simp; (try (with_reducible rfl)))
          try simp only [Act.put, List.setIfInBounds_toArray, List.set_cons_zero, List.set_cons_succ]
          refine wpAnyH_take (i := 22) (oi := ⟨some 34, _, _, _, _, _⟩) (v := ?_) rfl (by kernel_rfl) (by kernel_rfl) (by kernel_rfl) (fun _ _ _ h => h) (Or.inl ⟨by rfl, ?_⟩) (by assumption) ?_
          rotate_left
          · (intro w hSw; (try dsimp only at hSw); go_simp; (try (with_reducible rfl)))
          try simp only [Act.put, List.setIfInBounds_toArray, List.set_cons_zero, List.set_cons_succ]
          refine wpAnyH_done (by kernel_rfl) ?_ _
          have HG4 := Lib.hid (HG.out.below b4 HG.out.lt)
          have HB4 := Lib.hid (btrans HBD.out b4)
          clear b4 p0 p1 m0 k0 k1 k2 k3
          go_wp2_with fail
          go_roundg g2
          case measure => omega
          case rel => exact ⟨1, by omega, by go_num, HK, HG4.out, HB4.out⟩
        | succ m =>
          obtain ⟨y, hy⟩ : ∃ y, tl[m]? = some y := ⟨_, List.getElem?_eq_getElem (by omega)⟩
          obtain ⟨gb, ob, e', c1⟩ := HC2.out m y hy
          obtain ⟨rfl, rfl⟩ : ga = gb ∧ oa = ob := by simpa using e'
          have m1 : wr.cell? ⟨ga, oa + m, none⟩ = some (.int .i64 y) := nearv.cell_keep c1 hB
          have hk1 : ((m + 1 : Nat) : Int) = (m : Int) + 1 := by omega
          rw [hk1] at hlt'
          have hm2 : (m : Int) < (tl.length : Int) := by omega
          have hm3 : (0 : Int) < (m : Int) + 1 := by omega
          have hm4 : decide ((0 : Int) < (m : Int) + 1) = true := decide_eq_true hm3
          have hm5 : (0 : Int) ≤ (m : Int) + 1 := by omega
          have hm6 : (0 : Int) ≤ (m : Int) := by omega
          have hm7 : IntKind.i64.wrap (m : Int) = (m : Int) := IntWalk.i64_in _ (by omega)
          have hm8 : IntKind.i64.wrap ((m : Int) + 1 - 1) = (m : Int) := by rw [show (m : Int) + 1 - 1 = (m : Int) from by omega]; exact hm7
          by_cases hyx : x < y
          · have d0 : decide (x < y) = true := decide_eq_true hyx
            have HNO : Hid (okG (CopP n tl) = false) := okG_no fun hh => not_up hy hx hyx hh.2
            clear hx hy hin hI hgb hB hto e' c1 hyx
            rw [hk1]
            go_wp2_with fail
            go_region_held3 (fun w' => w'.cell? ⟨w.heap.size, 0, none⟩ = some (.int .i64 (n : Int)) ∧ w'.cell? ⟨w.heap.size, 1, none⟩ = some (.slice A l.length c) ∧ w'.cell? ⟨ga, oa + (m + 1), none⟩ = some (.int .i64 x) ∧ w'.cell? ⟨ga, oa + m, none⟩ = some (.int .i64 y)) (go_keep)
              ((go_at_call 110; refine (keep4 HNR.out (p := ⟨w.heap.size, 0, none⟩) (q := ⟨w.heap.size, 1, none⟩) (r := ⟨ga, oa + (m + 1), none⟩) (s := ⟨ga, oa + m, none⟩) (a := .int .i64 (n : Int)) (b := .slice A l.length c) (c := .int .i64 x) (d := .int .i64 y) ?_ ?_ ?_ ?_).mono ?_; (simp [*]); (simp [*]); (simp [*]); (simp [*]); rintro e w4 ⟨rfl, k0, k1, k2, k3, b4⟩))
            have HB4 := Lib.hid (btrans HBD.out b4)
            clear b4 p0 p1 m0 m1 k0 k1 k2 k3
            go_wp2_with fail
            go_ret
            rw [HNO.out]
            exact ⟨rfl, HB4.out⟩
          · have d0 : decide (x < y) = false := decide_eq_false hyx
            have HK := Lib.hid (hto.out.succ hx hin (fun m' y' hm hy' => by
              have hmm : m = m' := by omega
              subst hmm
              rw [hy] at hy'
              cases hy'
              omega))
            clear hx hy hin hI hgb hB hto e' c1 hyx
            rw [hk1]
            go_wp2_with fail
            go_region_held3 (fun w' => w'.cell? ⟨w.heap.size, 0, none⟩ = some (.int .i64 (n : Int)) ∧ w'.cell? ⟨w.heap.size, 1, none⟩ = some (.slice A l.length c) ∧ w'.cell? ⟨ga, oa + (m + 1), none⟩ = some (.int .i64 x) ∧ w'.cell? ⟨ga, oa + m, none⟩ = some (.int .i64 y)) (go_keep)
              ((go_at_call 110; refine (keep4 HNR.out (p := ⟨w.heap.size, 0, none⟩) (q := ⟨w.heap.size, 1, none⟩) (r := ⟨ga, oa + (m + 1), none⟩) (s := ⟨ga, oa + m, none⟩) (a := .int .i64 (n : Int)) (b := .slice A l.length c) (c := .int .i64 x) (d := .int .i64 y) ?_ ?_ ?_ ?_).mono ?_; (simp [*]); (simp [*]); (simp [*]); (simp [*]); rintro e w4 ⟨rfl, k0, k1, k2, k3, b4⟩))
            have HG4 := Lib.hid (HG.out.below b4 HG.out.lt)
            have HB4 := Lib.hid (btrans HBD.out b4)
            clear b4 p0 p1 m0 m1 k0 k1 k2 k3
            go_wp2_with fail
            go_roundg g2
            case measure => omega
            case rel => exact ⟨m + 1 + 1, by omega, by go_num, HK, HG4.out, HB4.out⟩
      · have hI : inB x 0 ((n : Int) - 1) = false := by simp [inB]; omega
        rw [hI] at HNR
        have HNO : Hid (okG (CopP n tl) = false) := okG_no fun hh => hin (hh.1 x (List.mem_of_getElem? hx))
        clear hI hx hgb hB hin hto
        go_wp2_with fail
        refine wp_region_held_drew (S := (fun w' => w'.cell? ⟨w.heap.size, 0, none⟩ = some (.int .i64 (n : Int)) ∧ w'.cell? ⟨w.heap.size, 1, none⟩ = some (.slice A l.length c) ∧ w'.cell? ⟨ga, oa + k, none⟩ = some (.int .i64 x))) (by kernel_rfl) (by (try dsimp only); simp [*]) (fun hHeld => ?_)
        change wpAnyH _ _ _ _ _ _ #[false, false, false, false, false, false, false, false, false, false, false, false, false, false, false, false, false, false, false, false, false, false, false] _ _
        refine wpAnyH_take (i := 1) (oi := ⟨some 13, _, _, _, _, _⟩) (v := ?_) rfl (by kernel_rfl) (by kernel_rfl) (by kernel_rfl) (fun _ _ _ h => h) (Or.inl ⟨by rfl, ?_⟩) (by assumption) ?_
        rotate_left
        · (intro w hSw; (try dsimp only at hSw); go_simp; (try (with_reducible rfl)))
        try simp only [Act.put, List.setIfInBounds_toArray, List.set_cons_zero, List.set_cons_succ]
        refine wpAnyH_take (i := 2) (oi := ⟨some 14, _, _, _, _, _⟩) (v := ?_) rfl (by kernel_rfl) (by kernel_rfl) (by kernel_rfl) (fun _ _ _ h => h) (Or.inl ⟨by rfl, ?_⟩) (by assumption) ?_
        rotate_left
        · (intro w hSw; (try dsimp only at hSw); go_simp; (try (with_reducible rfl)))
        try simp only [Act.put, List.setIfInBounds_toArray, List.set_cons_zero, List.set_cons_succ]
        refine wpAnyH_take (i := 3) (oi := ⟨some 15, _, _, _, _, _⟩) (v := ?_) rfl (by kernel_rfl) (by kernel_rfl) (by kernel_rfl) (fun _ _ _ h => h) (Or.inl ⟨by rfl, ?_⟩) (by assumption) ?_
        rotate_left
        · (intro w hSw; (try dsimp only at hSw); go_simp; (try (with_reducible rfl)))
        try simp only [Act.put, List.setIfInBounds_toArray, List.set_cons_zero, List.set_cons_succ]
        refine wpAnyH_take (i := 0) (oi := ⟨some 12, _, _, _, _, _⟩) (v := ?_) rfl (by kernel_rfl) (by kernel_rfl) (by kernel_rfl) (fun _ _ _ h => h) (Or.inl ⟨by rfl, ?_⟩) (by assumption) ?_
        rotate_left
        · (intro w hSw; (try dsimp only at hSw); go_simp; (try (with_reducible rfl)))
        try simp only [Act.put, List.setIfInBounds_toArray, List.set_cons_zero, List.set_cons_succ]
        refine wpAnyH_take (i := 4) (oi := ⟨some 16, _, _, _, _, _⟩) (v := ?_) rfl (by kernel_rfl) (by kernel_rfl) (by kernel_rfl) (fun _ _ _ h => h) (Or.inl ⟨by rfl, ?_⟩) (by assumption) ?_
        rotate_left
        · (intro w hSw; (try dsimp only at hSw); go_simp; (try (with_reducible rfl)))
        try simp only [Act.put, List.setIfInBounds_toArray, List.set_cons_zero, List.set_cons_succ]
        refine wpAnyH_ready (rs := [5]) (by kernel_rfl) (by simp) ?_
        refine AllReadyH.cons (o := ⟨some 17, _, _, _, _, _⟩) rfl (fun K hK => ?_) AllReadyH.nil
        go_simp
        refine (keep4 HNR.out (p := ⟨w.heap.size, 0, none⟩) (q := ⟨w.heap.size, 1, none⟩) (r := ⟨ga, oa + k, none⟩) (s := ⟨ga, oa + k, none⟩) (a := .int .i64 (n : Int)) (b := .slice A l.length c) (c := .int .i64 x) (d := .int .i64 x) ?_ ?_ ?_ ?_).mono ?_; (simp [*]); (simp [*]); (simp [*]); (simp [*]); rintro e w4 ⟨rfl, k0, k1, k2, k3, b4⟩
        go_wp2_with fail
        refine hK.out _ _ (by (try dsimp only); simp [*]) (fun hHeld => ?_)
        clear hK K
        try simp only [List.setIfInBounds_toArray, List.set_cons_zero, List.set_cons_succ]
        refine wpAnyH_take (i := 6) (oi := ⟨some 18, _, _, _, _, _⟩) (v := ?_) rfl (by kernel_rfl) (by kernel_rfl) (by kernel_rfl) (fun _ _ _ h => h) (Or.inl ⟨by rfl, ?_⟩) (by assumption) ?_
        rotate_left
        · (intro w hSw; (try dsimp only at hSw); go_simp; (try (with_reducible rfl)))
        try simp only [Act.put, List.setIfInBounds_toArray, List.set_cons_zero, List.set_cons_succ]
        refine wpAnyH_take (i := 7) (oi := ⟨some 19, _, _, _, _, _⟩) (v := ?_) rfl (by kernel_rfl) (by kernel_rfl) (by kernel_rfl) (fun _ _ _ h => h) (Or.inl ⟨by rfl, ?_⟩) (by assumption) ?_
        rotate_left
        · (intro w hSw; (try dsimp only at hSw); go_simp; (try (with_reducible rfl)))
        try simp only [Act.put, List.setIfInBounds_toArray, List.set_cons_zero, List.set_cons_succ]
        refine wpAnyH_take (i := 8) (oi := ⟨some 20, _, _, _, _, _⟩) (v := undef) rfl (by kernel_rfl) (by kernel_rfl) (by kernel_rfl) (fun _ _ _ h => h) (Or.inr ⟨by rfl, rfl⟩) (by assumption) ?_
        try simp only [Act.put, List.setIfInBounds_toArray, List.set_cons_zero, List.set_cons_succ]
        refine wpAnyH_take (i := 9) (oi := ⟨some 21, _, _, _, _, _⟩) (v := undef) rfl (by kernel_rfl) (by kernel_rfl) (by kernel_rfl) (fun _ _ _ h => h) (Or.inr ⟨by rfl, rfl⟩) (by assumption) ?_
        try simp only [Act.put, List.setIfInBounds_toArray, List.set_cons_zero, List.set_cons_succ]
        refine wpAnyH_take (i := 10) (oi := ⟨some 22, _, _, _, _, _⟩) (v := undef) rfl (by kernel_rfl) (by kernel_rfl) (by kernel_rfl) (fun _ _ _ h => h) (Or.inr ⟨by rfl, rfl⟩) (by assumption) ?_
        try simp only [Act.put, List.setIfInBounds_toArray, List.set_cons_zero, List.set_cons_succ]
        refine wpAnyH_take (i := 11) (oi := ⟨some 23, _, _, _, _, _⟩) (v := undef) rfl (by kernel_rfl) (by kernel_rfl) (by kernel_rfl) (fun _ _ _ h => h) (Or.inr ⟨by rfl, rfl⟩) (by assumption) ?_
        try simp only [Act.put, List.setIfInBounds_toArray, List.set_cons_zero, List.set_cons_succ]
        refine wpAnyH_take (i := 12) (oi := ⟨some 24, _, _, _, _, _⟩) (v := undef) rfl (by kernel_rfl) (by kernel_rfl) (by kernel_rfl) (fun _ _ _ h => h) (Or.inr ⟨by rfl, rfl⟩) (by assumption) ?_
        try simp only [Act.put, List.setIfInBounds_toArray, List.set_cons_zero, List.set_cons_succ]
        refine wpAnyH_take (i := 13) (oi := ⟨some 25, _, _, _, _, _⟩) (v := undef) rfl (by kernel_rfl) (by kernel_rfl) (by kernel_rfl) (fun _ _ _ h => h) (Or.inr ⟨by rfl, rfl⟩) (by assumption) ?_
        try simp only [Act.put, List.setIfInBounds_toArray, List.set_cons_zero, List.set_cons_succ]
        refine wpAnyH_take (i := 14) (oi := ⟨some 26, _, _, _, _, _⟩) (v := undef) rfl (by kernel_rfl) (by kernel_rfl) (by kernel_rfl) (fun _ _ _ h => h) (Or.inr ⟨by rfl, rfl⟩) (by assumption) ?_
        try simp only [Act.put, List.setIfInBounds_toArray, List.set_cons_zero, List.set_cons_succ]
        refine wpAnyH_take (i := 15) (oi := ⟨some 27, _, _, _, _, _⟩) (v := undef) rfl (by kernel_rfl) (by kernel_rfl) (by kernel_rfl) (fun _ _ _ h => h) (Or.inr ⟨by rfl, rfl⟩) (by assumption) ?_
        try simp only [Act.put, List.setIfInBounds_toArray, List.set_cons_zero, List.set_cons_succ]
        refine wpAnyH_take (i := 16) (oi := ⟨some 28, _, _, _, _, _⟩) (v := undef) rfl (by kernel_rfl) (by kernel_rfl) (by kernel_rfl) (fun _ _ _ h => h) (Or.inr ⟨by rfl, rfl⟩) (by assumption) ?_
        try simp only [Act.put, List.setIfInBounds_toArray, List.set_cons_zero, List.set_cons_succ]
        refine wpAnyH_take (i := 17) (oi := ⟨some 29, _, _, _, _, _⟩) (v := undef) rfl (by kernel_rfl) (by kernel_rfl) (by kernel_rfl) (fun _ _ _ h => h) (Or.inr ⟨by rfl, rfl⟩) (by assumption) ?_
        try simp only [Act.put, List.setIfInBounds_toArray, List.set_cons_zero, List.set_cons_succ]
        refine wpAnyH_take (i := 18) (oi := ⟨some 30, _, _, _, _, _⟩) (v := undef) rfl (by kernel_rfl) (by kernel_rfl) (by kernel_rfl) (fun _ _ _ h => h) (Or.inr ⟨by rfl, rfl⟩) (by assumption) ?_
        try simp only [Act.put, List.setIfInBounds_toArray, List.set_cons_zero, List.set_cons_succ]
        refine wpAnyH_take (i := 19) (oi := ⟨some 31, _, _, _, _, _⟩) (v := undef) rfl (by kernel_rfl) (by kernel_rfl) (by kernel_rfl) (fun _ _ _ h => h) (Or.inr ⟨by rfl, rfl⟩) (by assumption) ?_
        try simp only [Act.put, List.setIfInBounds_toArray, List.set_cons_zero, List.set_cons_succ]
        refine wpAnyH_take (i := 20) (oi := ⟨some 32, _, _, _, _, _⟩) (v := undef) rfl (by kernel_rfl) (by kernel_rfl) (by kernel_rfl) (fun _ _ _ h => h) (Or.inr ⟨by rfl, rfl⟩) (by assumption) ?_
        try simp only [Act.put, List.setIfInBounds_toArray, List.set_cons_zero, List.set_cons_succ]
        refine wpAnyH_take (i := 21) (oi := ⟨some 33, _, _, _, _, _⟩) (v := undef) rfl (by kernel_rfl) (by kernel_rfl) (by kernel_rfl) (fun _ _ _ h => h) (Or.inr ⟨by rfl, rfl⟩) (by assumption) ?_
        try simp only [Act.put, List.setIfInBounds_toArray, List.set_cons_zero, List.set_cons_succ]
        refine wpAnyH_take (i := 22) (oi := ⟨some 34, _, _, _, _, _⟩) (v := ?_) rfl (by kernel_rfl) (by kernel_rfl) (by kernel_rfl) (fun _ _ _ h => h) (Or.inl ⟨by rfl, ?_⟩) (by assumption) ?_
        rotate_left
        · (intro w hSw; (try dsimp only at hSw); go_simp; (try (with_reducible rfl)))
        try simp only [Act.put, List.setIfInBounds_toArray, List.set_cons_zero, List.set_cons_succ]
        refine wpAnyH_done (by kernel_rfl) ?_ _
        all_goals
          have HB4 := Lib.hid (btrans HBD.out b4)
          clear b4 p0 p1 m0
          go_wp2_with fail
          go_ret
          rw [HNO.out]
          exact ⟨rfl, HB4.out⟩
end Go.Proofs.Ytpeobnmfndelhaa.cops
