/- The contracts of the model's l3Retracts and IsRetraction. -/
import Derived.Test.YtbdappkhkngdlaaRetrI
namespace Go.Proofs.Ytbdappkhkngdlaa.retr
open Go.RowKit P2 words edges ints good adjs fns sets rets covs bitsI func cors
set_option linter.unusedVariables false

/-- an edge stays, or becomes a node -/
def KeptE (l : List Ed) (tl : List Int) (e : Ed) : Prop := at_ tl e.1 = at_ tl e.2 ∨ adj l (at_ tl e.1) (at_ tl e.2) = true
def FixT (n : Nat) (tl : List Int) (k : Nat) : Prop := ∀ j x, j < k → tl[j]? = some x → (0 ≤ x ∧ x < (n : Int)) ∧ at_ tl x = x
def KeptT (l : List Ed) (tl : List Int) (k : Nat) : Prop := ∀ j e, j < k → l[j]? = some e → KeptE l tl e
theorem fix_succ {n : Nat} {tl : List Int} {k : Nat} {x : Int} (h : FixT n tl k) (hx : tl[k]? = some x) (hp : (0 ≤ x ∧ x < (n : Int)) ∧ at_ tl x = x) : FixT n tl (k + 1) := fun j z hj hz => by
  by_cases e : j = k
  · subst e; rw [hx] at hz; cases hz; exact hp
  · exact h j z (by omega) hz
theorem kept_succ {l : List Ed} {tl : List Int} {k : Nat} {e : Ed} (h : KeptT l tl k) (hx : l[k]? = some e) (hp : KeptE l tl e) : KeptT l tl (k + 1) := fun j z hj hz => by
  by_cases e : j = k
  · subst e; rw [hx] at hz; cases hz; exact hp
  · exact h j z (by omega) hz
theorem fix_mem {n : Nat} {tl : List Int} (h : FixT n tl tl.length) : ∀ x ∈ tl, (0 ≤ x ∧ x < (n : Int)) ∧ at_ tl x = x := fun x hx => by
  obtain ⟨j, hj⟩ := List.getElem?_of_mem hx
  exact h j x (List.getElem?_eq_some_iff.1 hj).1 hj
theorem kept_mem {l : List Ed} {tl : List Int} (h : KeptT l tl l.length) : ∀ e ∈ l, KeptE l tl e := fun x hx => by
  obtain ⟨j, hj⟩ := List.getElem?_of_mem hx
  exact h j x (List.getElem?_eq_some_iff.1 hj).1 hj
theorem retr_of {n : Nat} {l : List Ed} {tl : List Int} (hl : tl.length = n) (h1 : FixT n tl tl.length) (h2 : KeptT l tl l.length) : RetrP n l tl :=
  ⟨hl, fun x hx => (fix_mem h1 x hx).1, fun x hx => (fix_mem h1 x hx).2, kept_mem h2⟩

set_option maxHeartbeats 4000000 in
set_option maxRecDepth 100000 in
theorem l3Retracts_any (n : Nat) (v u : Value) (l : List Ed) (tl : List Int) (w : World) (h : Edges w v l) (hl : l.length ≤ 1048576) (hu : Ints w u tl) (htl : tl.length ≤ 1048576) (hg : P2.Good n l) (hn8 : n ≤ 8) :
    Calls Try.prog 68 #[.agg #[.int .i64 (n : Int), v], u] w fun e w' => e = .returned (.bool (okG (RetrP n l tl))) ∧ Below w.heap.size w w' := by
  obtain ⟨A, c, rfl, hc⟩ := h.form
  obtain ⟨A2, c2, rfl, hc2⟩ := hu.form
  have H := Lib.hid h
  have HC := Lib.hid hc
  have HC2 := Lib.hid hc2
  have b0 : Below w.heap.size w (w.alloc (.cells #[.int .i64 (n : Int), .slice A l.length c] 29)) := (Below.refl _ _).alloc (Nat.le_refl _) _
  have g0 := Blk.new w 29 #[.int .i64 (n : Int), .slice A l.length c]
  have HGD := Lib.hid hg
  have hn0 : (0 : Int) ≤ (n : Int) := by omega
  have hn8' : (n : Int) ≤ 8 := by omega
  clear h hu hc hc2 hg
  by_cases hlen : tl.length = n
  · have dl : ((tl.length : Int) != (n : Int)) = false := by simp; omega
    have dl' : (tl.length != n) = false := by simp; omega
    have HL := Lib.hid hlen
    have hle : tl.length ≤ n := by omega
    have hge : n ≤ tl.length := by omega
    clear hlen
    go_enter Try.func68, Try.ntmps68
    obtain ⟨p0, p1, -, -⟩ := g0.two
    go_wp2_with fail
    clear p0 p1
    go_loopg [5] tl.length (fun g i wr => ∃ k : Nat, k + g = tl.length ∧ i = .int .i64 (k : Int) ∧ Hid (FixT n tl k) ∧ Blk wr w.heap.size 29 #[.int .i64 (n : Int), .slice A l.length c] ∧ Below w.heap.size w wr)
    case atStart => exact ⟨0, by omega, rfl, fun j e h => by omega, g0, b0⟩
    case round =>
      obtain ⟨k, hkg, rfl, hfix, hgb, hB⟩ := hrel
      obtain ⟨p0, p1, -, -⟩ := hgb.two
      cases gk with
      | succ g2 =>
        have hlt : k < tl.length := by omega
        have hlt' : (k : Int) < (tl.length : Int) := by omega
        obtain ⟨x, hx⟩ : ∃ x, tl[k]? = some x := ⟨_, List.getElem?_eq_getElem hlt⟩
        obtain ⟨ga, oa, rfl, c0⟩ := HC2.out k x hx
        have m0 : wr.cell? ⟨ga, oa + k, none⟩ = some (.int .i64 x) := cell_keep c0 hB
        have HNR := Lib.hid (l2Node_any (n : Int) x (.slice A l.length c) l wr.drew (H.out.below hB.drew) hn0 hn8')
        have HG := Lib.hid (hgb.drewN 1)
        have HBD : Hid (Below w.heap.size w wr.drew) := hB.drew
        clear c0
        by_cases hin : 0 ≤ x ∧ x < (n : Int)
        · have hI : inB x 0 ((n : Int) - 1) = true := by simp [inB]; omega
          rw [hI] at HNR
          obtain ⟨m, rfl⟩ : ∃ m : Nat, x = (m : Int) := ⟨x.toNat, by omega⟩
          have hm' : (m : Int) < (tl.length : Int) := by omega
          obtain ⟨y, hy⟩ : ∃ y, tl[m]? = some y := ⟨_, List.getElem?_eq_getElem (by omega)⟩
          obtain ⟨gb, ob, e', c1⟩ := HC2.out m y hy
          obtain ⟨rfl, rfl⟩ : ga = gb ∧ oa = ob := by simpa using e'
          have m1 : wr.cell? ⟨ga, oa + m, none⟩ = some (.int .i64 y) := cell_keep c1 hB
          have hay := at_eq hy
          clear hI e' c1 hy
          by_cases hyx : y = (m : Int)
          · have HK := Lib.hid (fix_succ hfix.out hx ⟨hin, hay.trans hyx⟩)
            have d0 : (y != (m : Int)) = false := by simp [hyx]
            clear hx hay hin hyx hgb hB
            go_wp2_with fail
            go_region_held3 (fun w' => w'.cell? ⟨w.heap.size, 0, none⟩ = some (.int .i64 (n : Int)) ∧ w'.cell? ⟨w.heap.size, 1, none⟩ = some (.slice A l.length c) ∧ w'.cell? ⟨ga, oa + k, none⟩ = some (.int .i64 (m : Int)) ∧ w'.cell? ⟨ga, oa + m, none⟩ = some (.int .i64 y)) (go_keep)
              ((go_at_call 60; refine (keep4 HNR.out (p := ⟨w.heap.size, 0, none⟩) (q := ⟨w.heap.size, 1, none⟩) (r := ⟨ga, oa + k, none⟩) (s := ⟨ga, oa + m, none⟩) (a := .int .i64 (n : Int)) (b := .slice A l.length c) (c := .int .i64 (m : Int)) (d := .int .i64 y) ?_ ?_ ?_ ?_).mono ?_; (simp [*]); (simp [*]); (simp [*]); (simp [*]); rintro e w4 ⟨rfl, k0, k1, k2, k3, b4⟩))
            have HG4 := Lib.hid (HG.out.below b4 HG.out.lt)
            have HB4 := Lib.hid (btrans HBD.out b4)
            clear b4 p0 p1 m0 m1 k0 k1 k2 k3
            go_wp2_with fail
            go_roundg g2
            case measure => omega
            case rel => exact ⟨k + 1, by omega, by go_num, HK, HG4.out, HB4.out⟩
          · have HNO : Hid (¬ RetrP n l tl) := fun hh => hyx (by have := hh.2.2.1 _ (List.mem_of_getElem? hx); rw [hay] at this; exact this)
            have d0 : (y != (m : Int)) = true := by simp [hyx]
            clear hx hay hin hyx hgb hB
            go_wp2_with fail
            go_region_held3 (fun w' => w'.cell? ⟨w.heap.size, 0, none⟩ = some (.int .i64 (n : Int)) ∧ w'.cell? ⟨w.heap.size, 1, none⟩ = some (.slice A l.length c) ∧ w'.cell? ⟨ga, oa + k, none⟩ = some (.int .i64 (m : Int)) ∧ w'.cell? ⟨ga, oa + m, none⟩ = some (.int .i64 y)) (go_keep)
              ((go_at_call 60; refine (keep4 HNR.out (p := ⟨w.heap.size, 0, none⟩) (q := ⟨w.heap.size, 1, none⟩) (r := ⟨ga, oa + k, none⟩) (s := ⟨ga, oa + m, none⟩) (a := .int .i64 (n : Int)) (b := .slice A l.length c) (c := .int .i64 (m : Int)) (d := .int .i64 y) ?_ ?_ ?_ ?_).mono ?_; (simp [*]); (simp [*]); (simp [*]); (simp [*]); rintro e w4 ⟨rfl, k0, k1, k2, k3, b4⟩))
            have HB4 := Lib.hid (btrans HBD.out b4)
            clear b4 p0 p1 m0 m1 k0 k1 k2 k3
            go_wp2_with fail
            go_ret
            exact ⟨ret_bool (okG_no HNO.out).symm, HB4.out⟩
        · have hI : inB x 0 ((n : Int) - 1) = false := by simp [inB]; omega
          rw [hI] at HNR
          have HNO : Hid (¬ RetrP n l tl) := fun hh => hin (hh.2.1 x (List.mem_of_getElem? hx))
          clear hI hx hgb hB hin
          go_wp2_with fail
          refine wp_region_held_drew (S := (fun w' => w'.cell? ⟨w.heap.size, 0, none⟩ = some (.int .i64 (n : Int)) ∧ w'.cell? ⟨w.heap.size, 1, none⟩ = some (.slice A l.length c) ∧ w'.cell? ⟨ga, oa + k, none⟩ = some (.int .i64 x))) (by kernel_rfl) (by (try dsimp only); simp [*]) (fun hHeld => ?_)
          change wpAnyH _ _ _ _ _ _ #[false, false, false, false, false, false, false, false, false, false, false, false, false, false, false, false, false, false, false, false, false] _ _
          refine wpAnyH_take (i := 1) (oi := ⟨some 21, _, _, _, _, _⟩) (v := ?_) rfl (by kernel_rfl) (by kernel_rfl) (by kernel_rfl) (fun _ _ _ h => h) (Or.inl ⟨by rfl, ?_⟩) (by assumption) ?_
          rotate_left
          · (intro w hSw; (try dsimp only at hSw); go_simp; (try (with_reducible rfl)))
          try simp only [Act.put, List.setIfInBounds_toArray, List.set_cons_zero, List.set_cons_succ]
          refine wpAnyH_take (i := 2) (oi := ⟨some 22, _, _, _, _, _⟩) (v := ?_) rfl (by kernel_rfl) (by kernel_rfl) (by kernel_rfl) (fun _ _ _ h => h) (Or.inl ⟨by rfl, ?_⟩) (by assumption) ?_
          rotate_left
          · (intro w hSw; (try dsimp only at hSw); go_simp; (try (with_reducible rfl)))
          try simp only [Act.put, List.setIfInBounds_toArray, List.set_cons_zero, List.set_cons_succ]
          refine wpAnyH_take (i := 3) (oi := ⟨some 23, _, _, _, _, _⟩) (v := ?_) rfl (by kernel_rfl) (by kernel_rfl) (by kernel_rfl) (fun _ _ _ h => h) (Or.inl ⟨by rfl, ?_⟩) (by assumption) ?_
          rotate_left
          · (intro w hSw; (try dsimp only at hSw); go_simp; (try (with_reducible rfl)))
          try simp only [Act.put, List.setIfInBounds_toArray, List.set_cons_zero, List.set_cons_succ]
          refine wpAnyH_take (i := 0) (oi := ⟨some 20, _, _, _, _, _⟩) (v := ?_) rfl (by kernel_rfl) (by kernel_rfl) (by kernel_rfl) (fun _ _ _ h => h) (Or.inl ⟨by rfl, ?_⟩) (by assumption) ?_
          rotate_left
          · (intro w hSw; (try dsimp only at hSw); go_simp; (try (with_reducible rfl)))
          try simp only [Act.put, List.setIfInBounds_toArray, List.set_cons_zero, List.set_cons_succ]
          refine wpAnyH_take (i := 4) (oi := ⟨some 24, _, _, _, _, _⟩) (v := ?_) rfl (by kernel_rfl) (by kernel_rfl) (by kernel_rfl) (fun _ _ _ h => h) (Or.inl ⟨by rfl, ?_⟩) (by assumption) ?_
          rotate_left
          · (intro w hSw; (try dsimp only at hSw); go_simp; (try (with_reducible rfl)))
          try simp only [Act.put, List.setIfInBounds_toArray, List.set_cons_zero, List.set_cons_succ]
          refine wpAnyH_ready (rs := [5]) (by kernel_rfl) (by simp) ?_
          refine AllReadyH.cons (o := ⟨some 25, _, _, _, _, _⟩) rfl (fun K hK => ?_) AllReadyH.nil
          go_simp
          refine (keep4 HNR.out (p := ⟨w.heap.size, 0, none⟩) (q := ⟨w.heap.size, 1, none⟩) (r := ⟨ga, oa + k, none⟩) (s := ⟨ga, oa + k, none⟩) (a := .int .i64 (n : Int)) (b := .slice A l.length c) (c := .int .i64 x) (d := .int .i64 x) ?_ ?_ ?_ ?_).mono ?_; (simp [*]); (simp [*]); (simp [*]); (simp [*]); rintro e w4 ⟨rfl, k0, k1, k2, -, b4⟩
          go_wp2_with fail
          refine hK.out _ _ (by (try dsimp only); simp [*]) (fun hHeld => ?_)
          clear hK K
          try simp only [List.setIfInBounds_toArray, List.set_cons_zero, List.set_cons_succ]
          refine wpAnyH_take (i := 6) (oi := ⟨some 26, _, _, _, _, _⟩) (v := ?_) rfl (by kernel_rfl) (by kernel_rfl) (by kernel_rfl) (fun _ _ _ h => h) (Or.inl ⟨by rfl, ?_⟩) (by assumption) ?_
          rotate_left
          · (intro w hSw; (try dsimp only at hSw); go_simp; (try (with_reducible rfl)))
          try simp only [Act.put, List.setIfInBounds_toArray, List.set_cons_zero, List.set_cons_succ]
          refine wpAnyH_take (i := 7) (oi := ⟨some 27, _, _, _, _, _⟩) (v := ?_) rfl (by kernel_rfl) (by kernel_rfl) (by kernel_rfl) (fun _ _ _ h => h) (Or.inl ⟨by rfl, ?_⟩) (by assumption) ?_
          rotate_left
          · (intro w hSw; (try dsimp only at hSw); go_simp; (try (with_reducible rfl)))
          try simp only [Act.put, List.setIfInBounds_toArray, List.set_cons_zero, List.set_cons_succ]
          refine wpAnyH_take (i := 8) (oi := ⟨some 28, _, _, _, _, _⟩) (v := undef) rfl (by kernel_rfl) (by kernel_rfl) (by kernel_rfl) (fun _ _ _ h => h) (Or.inr ⟨by rfl, rfl⟩) (by assumption) ?_
          try simp only [Act.put, List.setIfInBounds_toArray, List.set_cons_zero, List.set_cons_succ]
          refine wpAnyH_take (i := 9) (oi := ⟨some 29, _, _, _, _, _⟩) (v := undef) rfl (by kernel_rfl) (by kernel_rfl) (by kernel_rfl) (fun _ _ _ h => h) (Or.inr ⟨by rfl, rfl⟩) (by assumption) ?_
          try simp only [Act.put, List.setIfInBounds_toArray, List.set_cons_zero, List.set_cons_succ]
          refine wpAnyH_take (i := 10) (oi := ⟨some 30, _, _, _, _, _⟩) (v := undef) rfl (by kernel_rfl) (by kernel_rfl) (by kernel_rfl) (fun _ _ _ h => h) (Or.inr ⟨by rfl, rfl⟩) (by assumption) ?_
          try simp only [Act.put, List.setIfInBounds_toArray, List.set_cons_zero, List.set_cons_succ]
          refine wpAnyH_take (i := 11) (oi := ⟨some 31, _, _, _, _, _⟩) (v := undef) rfl (by kernel_rfl) (by kernel_rfl) (by kernel_rfl) (fun _ _ _ h => h) (Or.inr ⟨by rfl, rfl⟩) (by assumption) ?_
          try simp only [Act.put, List.setIfInBounds_toArray, List.set_cons_zero, List.set_cons_succ]
          refine wpAnyH_take (i := 12) (oi := ⟨some 32, _, _, _, _, _⟩) (v := undef) rfl (by kernel_rfl) (by kernel_rfl) (by kernel_rfl) (fun _ _ _ h => h) (Or.inr ⟨by rfl, rfl⟩) (by assumption) ?_
          try simp only [Act.put, List.setIfInBounds_toArray, List.set_cons_zero, List.set_cons_succ]
          refine wpAnyH_take (i := 13) (oi := ⟨some 33, _, _, _, _, _⟩) (v := undef) rfl (by kernel_rfl) (by kernel_rfl) (by kernel_rfl) (fun _ _ _ h => h) (Or.inr ⟨by rfl, rfl⟩) (by assumption) ?_
          try simp only [Act.put, List.setIfInBounds_toArray, List.set_cons_zero, List.set_cons_succ]
          refine wpAnyH_take (i := 14) (oi := ⟨some 34, _, _, _, _, _⟩) (v := undef) rfl (by kernel_rfl) (by kernel_rfl) (by kernel_rfl) (fun _ _ _ h => h) (Or.inr ⟨by rfl, rfl⟩) (by assumption) ?_
          try simp only [Act.put, List.setIfInBounds_toArray, List.set_cons_zero, List.set_cons_succ]
          refine wpAnyH_take (i := 15) (oi := ⟨some 35, _, _, _, _, _⟩) (v := undef) rfl (by kernel_rfl) (by kernel_rfl) (by kernel_rfl) (fun _ _ _ h => h) (Or.inr ⟨by rfl, rfl⟩) (by assumption) ?_
          try simp only [Act.put, List.setIfInBounds_toArray, List.set_cons_zero, List.set_cons_succ]
          refine wpAnyH_take (i := 16) (oi := ⟨some 36, _, _, _, _, _⟩) (v := undef) rfl (by kernel_rfl) (by kernel_rfl) (by kernel_rfl) (fun _ _ _ h => h) (Or.inr ⟨by rfl, rfl⟩) (by assumption) ?_
          try simp only [Act.put, List.setIfInBounds_toArray, List.set_cons_zero, List.set_cons_succ]
          refine wpAnyH_take (i := 17) (oi := ⟨some 37, _, _, _, _, _⟩) (v := undef) rfl (by kernel_rfl) (by kernel_rfl) (by kernel_rfl) (fun _ _ _ h => h) (Or.inr ⟨by rfl, rfl⟩) (by assumption) ?_
          try simp only [Act.put, List.setIfInBounds_toArray, List.set_cons_zero, List.set_cons_succ]
          refine wpAnyH_take (i := 18) (oi := ⟨some 38, _, _, _, _, _⟩) (v := undef) rfl (by kernel_rfl) (by kernel_rfl) (by kernel_rfl) (fun _ _ _ h => h) (Or.inr ⟨by rfl, rfl⟩) (by assumption) ?_
          try simp only [Act.put, List.setIfInBounds_toArray, List.set_cons_zero, List.set_cons_succ]
          refine wpAnyH_take (i := 19) (oi := ⟨some 39, _, _, _, _, _⟩) (v := undef) rfl (by kernel_rfl) (by kernel_rfl) (by kernel_rfl) (fun _ _ _ h => h) (Or.inr ⟨by rfl, rfl⟩) (by assumption) ?_
          try simp only [Act.put, List.setIfInBounds_toArray, List.set_cons_zero, List.set_cons_succ]
          refine wpAnyH_take (i := 20) (oi := ⟨some 40, _, _, _, _, _⟩) (v := ?_) rfl (by kernel_rfl) (by kernel_rfl) (by kernel_rfl) (fun _ _ _ h => h) (Or.inl ⟨by rfl, ?_⟩) (by assumption) ?_
          rotate_left
          · (intro w hSw; (try dsimp only at hSw); go_simp; (try (with_reducible rfl)))
          try simp only [Act.put, List.setIfInBounds_toArray, List.set_cons_zero, List.set_cons_succ]
          refine wpAnyH_done (by kernel_rfl) ?_ _
          all_goals
            have HB4 := Lib.hid (btrans HBD.out b4)
            clear b4 p0 p1 m0
            go_wp2_with fail
            go_ret
            exact ⟨ret_bool (okG_no HNO.out).symm, HB4.out⟩
      | zero =>
        obtain rfl : k = tl.length := by omega
        have HGB := Lib.hid hgb
        have HBB := Lib.hid hB
        clear hgb hB
        go_wp2_with fail
        clear p0 p1
        go_loopg [6] l.length (fun g i wr => ∃ j : Nat, j + g = l.length ∧ i = .int .i64 (j : Int) ∧ Hid (KeptT l tl j) ∧ Blk wr w.heap.size 29 #[.int .i64 (n : Int), .slice A l.length c] ∧ Below w.heap.size w wr)
        case atStart => exact ⟨0, by omega, rfl, fun j e h => by omega, HGB.out, HBB.out⟩
        case round =>
          clear HGB HBB
          obtain ⟨j, hjg, rfl, hkept, hgb, hB⟩ := hrel
          obtain ⟨p0, p1, -, -⟩ := hgb.two
          cases gk with
          | zero =>
            obtain rfl : j = l.length := by omega
            have HY := Lib.hid (retr_of HL.out hfix.out hkept.out)
            go_wp2_with fail
            go_ret
            exact ⟨ret_bool (okG_yes HY.out).symm, hB⟩
          | succ g2 =>
            have hlt : j < l.length := by omega
            have hlt' : (j : Int) < (l.length : Int) := by omega
            obtain ⟨x, hx⟩ : ∃ x, l[j]? = some x := ⟨_, List.getElem?_eq_getElem hlt⟩
            have hm := HGD.out.mem (List.mem_of_getElem? hx)
            obtain ⟨g, o, rfl, c0, c1⟩ := HC.out j x hx
            obtain ⟨x1, x2⟩ := x
            simp only at hm c0 c1
            obtain ⟨p, rfl⟩ : ∃ p : Nat, x1 = (p : Int) := ⟨x1.toNat, by omega⟩
            obtain ⟨q, rfl⟩ : ∃ q : Nat, x2 = (q : Int) := ⟨x2.toNat, by omega⟩
            have hp' : (p : Int) < (tl.length : Int) := by omega
            have hq' : (q : Int) < (tl.length : Int) := by omega
            obtain ⟨a, ha⟩ : ∃ y, tl[p]? = some y := ⟨_, List.getElem?_eq_getElem (by omega)⟩
            obtain ⟨b, hb⟩ : ∃ y, tl[q]? = some y := ⟨_, List.getElem?_eq_getElem (by omega)⟩
            obtain ⟨ga, oa, rfl, c2⟩ := HC2.out p a ha
            obtain ⟨gb, ob, e', c3⟩ := HC2.out q b hb
            obtain ⟨rfl, rfl⟩ : ga = gb ∧ oa = ob := by simpa using e'
            have q0 := cell_keep c0 hB
            have q1 := cell_keep c1 hB
            have q2 := cell_keep c2 hB
            have q3 := cell_keep c3 hB
            have HKE : Hid (KeptE l tl ((p : Int), (q : Int)) ↔ (a = b ∨ adj l a b = true)) := by show _ ↔ _; unfold KeptE; rw [at_eq ha, at_eq hb]
            have HG := Lib.hid (fun nq => hgb.drewN nq)
            have HBq := Lib.hid (fun nq => below_drewN hB nq)
            have HX := Lib.hid hx
            clear hx hm ha hb e' c0 c1 c2 c3 hgb hB
            by_cases hab : a = b
            · have HK := Lib.hid (kept_succ hkept.out HX.out (HKE.out.2 (.inl hab)))
              have d0 : (a != b) = false := by simp [hab]
              clear hab
              go_wp2_with fail
              go_quiet (fail)
              go_wp2_with fail
              go_roundg g2
              case measure => omega
              case rel => exact ⟨j + 1, by omega, by go_num, HK, HG.out _, HBq.out _⟩
            · have d0 : (a != b) = true := by simp [hab]
              have HAB := Lib.hid hab
              clear hab
              cases hnr : adj l a b with
              | true =>
                have HK := Lib.hid (kept_succ hkept.out HX.out (HKE.out.2 (.inr hnr)))
                have HNR := Lib.hid (fun W hW => l2Near_any (n : Int) a b (.slice (some ⟨g, o, none⟩) l.length c) l W hW hl)
                rw [hnr] at HNR
                clear hnr
                go_wp2_with fail
                go_quiet (fail)
                go_wp2_with fail
                refine (HNR.out _ (H.out.below (HBq.out _))).mono ?_
                rintro e w4 ⟨rfl, b4⟩
                have HG4 := Lib.hid ((HG.out _).below b4 (HG.out _).lt)
                have HB4 := Lib.hid (btrans (HBq.out _) b4)
                clear b4 p0 p1 q0 q1 q2 q3
                go_wp2_with fail
                go_roundg g2
                case measure => omega
                case rel => exact ⟨j + 1, by omega, by go_num, HK, HG4.out, HB4.out⟩
              | false =>
                have HNO : Hid (¬ RetrP n l tl) := fun hh => by
                  have := HKE.out.1 (hh.2.2.2 _ (List.mem_of_getElem? HX.out))
                  rcases this with e | e
                  · exact HAB.out e
                  · rw [hnr] at e; cases e
                have HNR := Lib.hid (fun W hW => l2Near_any (n : Int) a b (.slice (some ⟨g, o, none⟩) l.length c) l W hW hl)
                rw [hnr] at HNR
                clear hnr
                go_wp2_with fail
                go_quiet (fail)
                go_wp2_with fail
                refine (HNR.out _ (H.out.below (HBq.out _))).mono ?_
                rintro e w4 ⟨rfl, b4⟩
                have HB4 := Lib.hid (btrans (HBq.out _) b4)
                clear b4 p0 p1 q0 q1 q2 q3
                go_wp2_with fail
                go_ret
                exact ⟨ret_bool (okG_no HNO.out).symm, HB4.out⟩
  · have HNO : Hid (¬ RetrP n l tl) := fun hh => hlen hh.1
    have dl : ((tl.length : Int) != (n : Int)) = true := by simp; omega
    have dl' : (tl.length != n) = true := by simp; omega
    clear hlen
    go_enter Try.func68, Try.ntmps68
    obtain ⟨p0, p1, -, -⟩ := g0.two
    go_wp2_with fail
    go_ret
    exact ⟨ret_bool (okG_no HNO.out).symm, b0⟩

set_option maxHeartbeats 1000000 in
theorem specIsRetraction_any (s : Int) (v u : Value) (l : List Ed) (tl : List Int) (w : World) (h : Edges w v l) (hl : l.length ≤ 1048576) (hu : Ints w u tl) (htl : tl.length ≤ 1048576) (hs1 : -9223372036854775808 ≤ s) (hs2 : s ≤ 9223372036854775807) :
    Calls Try.prog 28 #[.agg #[.int .i64 s, v], u] w fun e w' => e = .returned (.tuple #[.bool (retrV s l tl), .bool (goodB s l)]) ∧ Below w.heap.size w w' := by
  obtain ⟨A, c, rfl, -⟩ := h.form
  obtain ⟨A2, c2, rfl, -⟩ := hu.form
  have H := Lib.hid h
  have HU := Lib.hid hu
  have b0 : Below w.heap.size w (w.alloc (.cells #[.int .i64 s, .slice A l.length c] 29)) := (Below.refl _ _).alloc (Nat.le_refl _) _
  have g0 := Blk.new w 29 #[.int .i64 s, .slice A l.length c]
  have HG := Lib.hid (l2Good_any s _ l _ (h.below b0) hl hs1 hs2)
  clear h hu
  by_cases hg : P2.Good s l
  · rw [goodB_yes hg] at HG
    obtain ⟨n, rfl⟩ : ∃ n : Nat, s = (n : Int) := ⟨s.toNat, by have := hg.1; omega⟩
    have hn : n ≤ 8 := by have := hg.2.1; omega
    have HV : Hid (retrV (n : Int) l tl = okG (RetrP n l tl)) := by show _ = _; unfold retrV; rw [goodB_yes hg]; rfl
    have HGB := Lib.hid (goodB_yes hg)
    have HGD := Lib.hid hg
    clear hg
    go_enter Try.func28, Try.ntmps28
    go_wp2_with fail
    refine HG.out.mono ?_
    rintro e w1 ⟨rfl, b1⟩
    have e_w1 := btrans b0 b1
    have g1 := g0.below b1 g0.lt
    clear HG b0 b1 g0
    obtain ⟨p0, p1, -, -⟩ := g1.two
    go_wp2_with fail
    refine (l3Retracts_any n _ _ l tl w1 (H.out.below e_w1) hl (HU.out.below e_w1) htl HGD.out hn).mono ?_
    rintro e w2 ⟨rfl, b2⟩
    go_wp2_with fail
    go_ret2
    exact ⟨retBB HV.out.symm HGB.out.symm, btrans e_w1 b2⟩
  · rw [goodB_no hg] at HG
    have HV : Hid (retrV s l tl = false) := by show _ = _; unfold retrV; rw [goodB_no hg]; rfl
    have HGB := Lib.hid (goodB_no hg)
    clear hg
    go_enter Try.func28, Try.ntmps28
    go_wp2_with fail
    refine HG.out.mono ?_
    rintro e w1 ⟨rfl, b1⟩
    have e_w1 := btrans b0 b1
    go_wp2_with fail
    go_ret2
    exact ⟨retBB HV.out.symm HGB.out.symm, e_w1⟩
end Go.Proofs.Ytbdappkhkngdlaa.retr
