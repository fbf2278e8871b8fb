/- The contracts of the model's l3Covers, l3Cover and l3Corners. -/
import Derived.Handy
import Derived.Test.YtcnfeijniidclaaDoorBall
import Derived.Deep.RegionHeld3
namespace Go.Proofs.YtcnfeijniidclaaDoor.covs
open Go.RowKit P2 words edges ints good adjs fns sets apps neigh balls rets
set_option linter.unusedVariables false

/-- a node of the ball is no reason against y -/
def okS (l : List Ed) (xs : List Int) (y b : Int) : Bool := !(decide (b ∈ xs) && (b != y && !adj l b y))
theorem okS_out {l : List Ed} {xs : List Int} {y b : Int} (h : decide (b ∈ xs) = false) : okS l xs y b = true := by unfold okS; rw [h]; rfl
theorem okS_same {l : List Ed} {xs : List Int} {y b : Int} (h : (b != y) = false) : okS l xs y b = true := by unfold okS; rw [h]; simp
theorem okS_near {l : List Ed} {xs : List Int} {y b : Int} (h : adj l b y = true) : okS l xs y b = true := by unfold okS; rw [h]; simp
theorem okS_no {l : List Ed} {xs : List Int} {y b : Int} (h1 : decide (b ∈ xs) = true) (h2 : (b != y) = true) (h3 : adj l b y = false) : okS l xs y b = false := by unfold okS; rw [h1, h2, h3]; rfl
theorem all_at {p : Int → Bool} {bl : List Int} {k : Nat} {b : Int} (hb : bl[k]? = some b) (hp : p b = false) : bl.all p = false := by
  rw [List.all_eq_false]; exact ⟨b, List.mem_of_getElem? hb, by simp [hp]⟩
theorem all_to {p : Int → Bool} {bl : List Int} (h : ∀ j b, j < bl.length → bl[j]? = some b → p b = true) : bl.all p = true := by
  rw [List.all_eq_true]
  intro b hb
  obtain ⟨j, hj⟩ := List.getElem?_of_mem hb
  exact h j b (List.getElem?_eq_some_iff.1 hj).1 hj
theorem to_succ {p : Int → Bool} {bl : List Int} {k : Nat} {b : Int} (h : ∀ j b, j < k → bl[j]? = some b → p b = true) (hb : bl[k]? = some b) (hp : p b = true) : ∀ j b, j < k + 1 → bl[j]? = some b → p b = true := fun j z hj hz => by
  by_cases e : j = k
  · subst e; rw [hb] at hz; cases hz; exact hp
  · exact h j z (by omega) hz

set_option maxHeartbeats 4000000 in
set_option maxRecDepth 100000 in
theorem l3Covers_any (n : Nat) (x y : Int) (v u : Value) (l : List Ed) (xs : List Int) (w : World) (h : Edges w v l) (hl : l.length ≤ 1048576) (hu : Ints w u xs) (hxl : xs.length ≤ 1048576) (hn : n ≤ 8) (hx : 0 ≤ x ∧ x < (n : Int)) :
    Calls Tryd.prog 46 #[.agg #[.int .i64 (n : Int), v], u, .int .i64 x, .int .i64 y] w fun e w' => e = .returned (.bool (coverS n l xs x y)) ∧ Below w.heap.size w w' := by
  obtain ⟨A, c, rfl, -⟩ := h.form
  obtain ⟨A2, c2, rfl, -⟩ := hu.form
  have H := Lib.hid h
  have HU := Lib.hid hu
  have b0 : Below w.heap.size w (w.alloc (.cells #[.int .i64 (n : Int), .slice A l.length c] 29)) := (Below.refl _ _).alloc (Nat.le_refl _) _
  have g0 := Blk.new w 29 #[.int .i64 (n : Int), .slice A l.length c]
  have HB := Lib.hid (l2Ball_any n x _ l _ (h.below b0) hl hn hx)
  have hlen := nw_len (ballB l x.toNat) n
  have HV : Hid (coverS n l xs x y = ((nw (ballB l x.toNat) n).all (okS l xs y) && (x != y && decide (y ∈ xs)))) := rfl
  generalize nw (ballB l x.toNat) n = bl at *
  clear h hu hx
  go_enter Tryd.func46, Tryd.ntmps46
  go_wp2_with fail
  refine HB.out.mono ?_
  rintro e w1 ⟨A1, c1, rfl, r1, b1⟩
  have e1 := btrans b0 b1
  have g1 := g0.below b1 g0.lt
  obtain ⟨_, _, hf, hc1⟩ := Ints.form r1
  cases hf
  have HC := Lib.hid hc1
  have he1 := e1.size
  clear HB b0 g0 b1 r1 hc1
  go_wp2_with fail
  go_loopg [10] bl.length (fun g i wr => ∃ k : Nat, k + g = bl.length ∧ i = .int .i64 (k : Int) ∧ Hid (∀ j b, j < k → bl[j]? = some b → okS l xs y b = true) ∧ Blk wr w.heap.size 29 #[.int .i64 (n : Int), .slice A l.length c] ∧ Below w1.heap.size w1 wr)
  case atStart => exact ⟨0, by omega, rfl, fun j e h => by omega, g1, Below.refl _ _⟩
  case round =>
    obtain ⟨k, hkg, rfl, hok, hgb, hB⟩ := hrel
    obtain ⟨p0, p1, -, -⟩ := hgb.two
    have hB0 := btrans e1 hB
    cases gk with
    | zero =>
      obtain rfl : k = bl.length := by omega
      have HY : Hid (coverS n l xs x y = (x != y && decide (y ∈ xs))) := by show _ = _; rw [HV.out, all_to hok.out]; rfl
      have HS := Lib.hid (l1Has_any _ xs y wr (HU.out.below hB0) hxl)
      cases hxy : (x != y) with
      | true =>
        rw [hxy] at HY
        go_wp2_with fail
        refine HS.out.mono ?_
        rintro e w2 ⟨rfl, rfl⟩
        go_wp2_with fail
        go_ret
        exact ⟨ret_bool (by rw [HY.out]; rfl), hB0⟩
      | false =>
        rw [hxy] at HY
        go_wp2_with fail
        go_ret
        exact ⟨ret_bool (by rw [HY.out]; rfl), hB0⟩
    | succ g2 =>
      have hlt : k < bl.length := by omega
      have hlt' : (k : Int) < (bl.length : Int) := by omega
      obtain ⟨b, hb⟩ : ∃ b, bl[k]? = some b := ⟨_, List.getElem?_eq_getElem hlt⟩
      obtain ⟨ga, oa, rfl, c0⟩ := HC.out k b hb
      have m0 : wr.cell? ⟨ga, oa + k, none⟩ = some (.int .i64 b) := cell_keep c0 hB
      have HS := Lib.hid (fun nq => l1Has_any _ xs b (wr.drewN nq) (HU.out.below (below_drewN hB0 nq)) hxl)
      have HGq := Lib.hid (fun nq => hgb.drewN nq)
      have HBq := Lib.hid (fun nq => below_drewN hB nq)
      have HNR := Lib.hid (l2Near_any (n : Int) b y (.slice A l.length c) l wr.drew (H.out.below hB0.drew) hl)
      have HG := Lib.hid (hgb.drewN 1)
      have HBD : Hid (Below w1.heap.size w1 wr.drew) := hB.drew
      clear c0
      cases hin : decide (b ∈ xs) with
      | false =>
        have HK := Lib.hid (to_succ hok.out hb (okS_out (l := l) (y := y) hin))
        rw [hin] at HS
        clear hb hin hgb hB hB0
        go_wp2_with fail
        go_quiet ((go_at_call 51; exact quiet_left (HS.out _)))
        go_wp2_with fail
        go_roundg g2
        case measure => omega
        case rel => exact ⟨k + 1, by omega, by go_num, HK, HGq.out _, HBq.out _⟩
      | true =>
        rw [hin] at HS
        cases hby : (b != y) with
        | false =>
          have HK := Lib.hid (to_succ hok.out hb (okS_same (l := l) (xs := xs) hby))
          clear hb hin hgb hB hB0
          go_wp2_with fail
          go_quiet ((go_at_call 51; exact quiet_left (HS.out _)))
          go_wp2_with fail
          go_roundg g2
          case measure => omega
          case rel => exact ⟨k + 1, by omega, by go_num, HK, HGq.out _, HBq.out _⟩
        | true =>
          cases hnr : adj l b y with
          | true =>
            have HK := Lib.hid (to_succ hok.out hb (okS_near (xs := xs) hnr))
            rw [hnr] at HNR
            clear hb hin hgb hB hB0 hnr
            go_wp2_with fail
            go_region_held3 (fun w' => w'.cell? ⟨w.heap.size, 0, none⟩ = some (.int .i64 (n : Int)) ∧ w'.cell? ⟨w.heap.size, 1, none⟩ = some (.slice A l.length c) ∧ w'.cell? ⟨ga, oa + k, none⟩ = some (.int .i64 b)) (go_keep)
              (first | ((go_at_call 51; refine (HS.out 1).mono ?_; rintro e w3 ⟨rfl, rfl⟩)) | (go_at_call 52; refine (keep4 HNR.out (p := ⟨w.heap.size, 0, none⟩) (q := ⟨w.heap.size, 1, none⟩) (r := ⟨ga, oa + k, none⟩) (s := ⟨ga, oa + k, none⟩) (a := .int .i64 (n : Int)) (b := .slice A l.length c) (c := .int .i64 b) (d := .int .i64 b) ?_ ?_ ?_ ?_).mono ?_; (simp [*]); (simp [*]); (simp [*]); (simp [*]); rintro e w4 ⟨rfl, k0, k1, k2, -, b4⟩))
            have HG4 := Lib.hid (HG.out.below b4 HG.out.lt)
            have HB4 := Lib.hid (HBD.out.trans (b4.mono HBD.out.size))
            clear b4 k0 k1 k2 p0 p1 m0
            go_wp2_with fail
            go_roundg g2
            case measure => omega
            case rel => exact ⟨k + 1, by omega, by go_num, HK, HG4.out, HB4.out⟩
          | false =>
            have HY : Hid (coverS n l xs x y = false) := by show _ = _; rw [HV.out, all_at hb (okS_no hin hby hnr)]; rfl
            rw [hnr] at HNR
            clear hb hin hgb hB hB0 hnr
            go_wp2_with fail
            go_region_held3 (fun w' => w'.cell? ⟨w.heap.size, 0, none⟩ = some (.int .i64 (n : Int)) ∧ w'.cell? ⟨w.heap.size, 1, none⟩ = some (.slice A l.length c) ∧ w'.cell? ⟨ga, oa + k, none⟩ = some (.int .i64 b)) (go_keep)
              (first | ((go_at_call 51; refine (HS.out 1).mono ?_; rintro e w3 ⟨rfl, rfl⟩)) | (go_at_call 52; refine (keep4 HNR.out (p := ⟨w.heap.size, 0, none⟩) (q := ⟨w.heap.size, 1, none⟩) (r := ⟨ga, oa + k, none⟩) (s := ⟨ga, oa + k, none⟩) (a := .int .i64 (n : Int)) (b := .slice A l.length c) (c := .int .i64 b) (d := .int .i64 b) ?_ ?_ ?_ ?_).mono ?_; (simp [*]); (simp [*]); (simp [*]); (simp [*]); rintro e w4 ⟨rfl, k0, k1, k2, -, b4⟩))
            have HB4 := Lib.hid (btrans e1 (HBD.out.trans (b4.mono HBD.out.size)))
            clear b4
            go_wp2_with fail
            go_ret
            exact ⟨ret_bool HY.out.symm, HB4.out⟩

theorem find_at {p : Int → Bool} {xs : List Int} {k : Nat} {y : Int} (hno : ∀ j z, j < k → xs[j]? = some z → p z = false) (hy : xs[k]? = some y) (hp : p y = true) : xs.find? p = some y := by
  obtain ⟨hk, he⟩ := List.getElem?_eq_some_iff.1 hy
  rw [← List.take_append_drop k xs, List.find?_append, List.drop_eq_getElem_cons hk, he, List.find?_cons_of_pos hp, List.find?_eq_none.2, Option.none_or]
  intro z hz
  obtain ⟨j, hj⟩ := List.getElem?_of_mem hz
  rw [List.getElem?_take] at hj
  split at hj
  · rename_i hjk
    have := hno j z hjk hj
    simp [this]
  · cases hj
theorem find_none {p : Int → Bool} {xs : List Int} (hno : ∀ j z, j < xs.length → xs[j]? = some z → p z = false) : xs.find? p = none := by
  rw [List.find?_eq_none]
  intro z hz
  obtain ⟨j, hj⟩ := List.getElem?_of_mem hz
  have := hno j z (List.getElem?_eq_some_iff.1 hj).1 hj
  simp [this]
theorem no_succ {p : Int → Bool} {xs : List Int} {k : Nat} {y : Int} (h : ∀ j z, j < k → xs[j]? = some z → p z = false) (hy : xs[k]? = some y) (hp : p y = false) : ∀ j z, j < k + 1 → xs[j]? = some z → p z = false := fun j z hj hz => by
  by_cases e : j = k
  · subst e; rw [hy] at hz; cases hz; exact hp
  · exact h j z (by omega) hz

set_option maxHeartbeats 4000000 in
set_option maxRecDepth 100000 in
theorem l3Cover_any (n : Nat) (x : Int) (v u : Value) (l : List Ed) (xs : List Int) (w : World) (h : Edges w v l) (hl : l.length ≤ 1048576) (hu : Ints w u xs) (hxl : xs.length ≤ 1048576) (hn : n ≤ 8) (hx : 0 ≤ x ∧ x < (n : Int)) :
    Calls Tryd.prog 35 #[.agg #[.int .i64 (n : Int), v], u, .int .i64 x] w fun e w' => e = .returned (.int .i64 (leastS n l xs x)) ∧ Below w.heap.size w w' := by
  obtain ⟨A, c, rfl, -⟩ := h.form
  obtain ⟨A2, c2, rfl, hc2⟩ := hu.form
  have H := Lib.hid h
  have HU := Lib.hid hu
  have HC := Lib.hid hc2
  have b0 : Below w.heap.size w (w.alloc (.cells #[.int .i64 (n : Int), .slice A l.length c] 29)) := (Below.refl _ _).alloc (Nat.le_refl _) _
  have g0 := Blk.new w 29 #[.int .i64 (n : Int), .slice A l.length c]
  clear h hu hc2
  go_enter Tryd.func35, Tryd.ntmps35
  go_wp2_with fail
  go_loopg [7] xs.length (fun g i wr => ∃ k : Nat, k + g = xs.length ∧ i = .int .i64 (k : Int) ∧ Hid (∀ j z, j < k → xs[j]? = some z → coverS n l xs x z = false) ∧ Blk wr w.heap.size 29 #[.int .i64 (n : Int), .slice A l.length c] ∧ Below w.heap.size w wr)
  case atStart => exact ⟨0, by omega, rfl, fun j e h => by omega, g0, b0⟩
  case round =>
    obtain ⟨k, hkg, rfl, hno, hgb, hB⟩ := hrel
    obtain ⟨p0, p1, -, -⟩ := hgb.two
    cases gk with
    | zero =>
      obtain rfl : k = xs.length := by omega
      have HY : Hid (leastS n l xs x = -1) := by show _ = _; unfold leastS; rw [find_none hno.out]; rfl
      go_wp2_with fail
      go_ret
      exact ⟨ret_int (by rw [HY.out]), hB⟩
    | succ g2 =>
      have hlt : k < xs.length := by omega
      have hlt' : (k : Int) < (xs.length : Int) := by omega
      obtain ⟨b, hb⟩ : ∃ b, xs[k]? = some b := ⟨_, List.getElem?_eq_getElem hlt⟩
      obtain ⟨ga, oa, rfl, c0⟩ := HC.out k b hb
      have m0 : wr.cell? ⟨ga, oa + k, none⟩ = some (.int .i64 b) := cell_keep c0 hB
      have HCV := Lib.hid (l3Covers_any n x b (.slice A l.length c) _ l xs wr.drew (H.out.below hB.drew) hl (HU.out.below hB.drew) hxl hn hx)
      have HG := Lib.hid (hgb.drewN 1)
      have HBD : Hid (Below w.heap.size w wr.drew) := hB.drew
      clear c0
      cases hp : coverS n l xs x b with
      | false =>
        have HK := Lib.hid (no_succ hno.out hb hp)
        rw [hp] at HCV
        clear hb hp hgb hB
        go_wp2_with fail
        go_region_held3 (fun w' => w'.cell? ⟨w.heap.size, 0, none⟩ = some (.int .i64 (n : Int)) ∧ w'.cell? ⟨w.heap.size, 1, none⟩ = some (.slice A l.length c) ∧ w'.cell? ⟨ga, oa + k, none⟩ = some (.int .i64 b)) (go_keep)
          ((go_at_call 46; refine (keep4 HCV.out (p := ⟨w.heap.size, 0, none⟩) (q := ⟨w.heap.size, 1, none⟩) (r := ⟨ga, oa + k, none⟩) (s := ⟨ga, oa + k, none⟩) (a := .int .i64 (n : Int)) (b := .slice A l.length c) (c := .int .i64 b) (d := .int .i64 b) ?_ ?_ ?_ ?_).mono ?_; (simp [*]); (simp [*]); (simp [*]); (simp [*]); rintro e w4 ⟨rfl, k0, k1, k2, -, b4⟩))
        have HG4 := Lib.hid (HG.out.below b4 HG.out.lt)
        have HB4 := Lib.hid (btrans HBD.out b4)
        clear b4 p0 p1 m0 k0 k1 k2
        go_wp2_with fail
        go_roundg g2
        case measure => omega
        case rel => exact ⟨k + 1, by omega, by go_num, HK, HG4.out, HB4.out⟩
      | true =>
        have HY : Hid (leastS n l xs x = b) := by show _ = _; unfold leastS; rw [find_at hno.out hb hp]; rfl
        rw [hp] at HCV
        clear hb hp hgb hB
        go_wp2_with fail
        go_region_held3 (fun w' => w'.cell? ⟨w.heap.size, 0, none⟩ = some (.int .i64 (n : Int)) ∧ w'.cell? ⟨w.heap.size, 1, none⟩ = some (.slice A l.length c) ∧ w'.cell? ⟨ga, oa + k, none⟩ = some (.int .i64 b)) (go_keep)
          ((go_at_call 46; refine (keep4 HCV.out (p := ⟨w.heap.size, 0, none⟩) (q := ⟨w.heap.size, 1, none⟩) (r := ⟨ga, oa + k, none⟩) (s := ⟨ga, oa + k, none⟩) (a := .int .i64 (n : Int)) (b := .slice A l.length c) (c := .int .i64 b) (d := .int .i64 b) ?_ ?_ ?_ ?_).mono ?_; (simp [*]); (simp [*]); (simp [*]); (simp [*]); rintro e w4 ⟨rfl, k0, k1, k2, -, b4⟩))
        have HB4 := Lib.hid (btrans HBD.out b4)
        clear b4 p0 p1 m0 k0 k1
        go_wp2_with fail
        go_ret
        exact ⟨ret_int (by rw [HY.out]), HB4.out⟩

/-- those of the first k numbers for which q holds -/
def fl (q : Int → Bool) (xs : List Int) (k : Nat) : List Int := (xs.take k).filter q
theorem fl_len (q : Int → Bool) (xs : List Int) (k : Nat) : (fl q xs k).length ≤ k := by
  unfold fl
  refine Nat.le_trans (List.length_filter_le _ _) ?_
  rw [List.length_take]; omega
theorem fl_yes {q : Int → Bool} {xs : List Int} {k : Nat} {y : Int} (h : xs[k]? = some y) (hq : q y = true) : fl q xs (k + 1) = fl q xs k ++ [y] := by
  unfold fl
  rw [List.take_add_one, h, List.filter_append, Option.toList_some, List.filter_cons_of_pos hq]; rfl
theorem fl_no {q : Int → Bool} {xs : List Int} {k : Nat} {y : Int} (h : xs[k]? = some y) (hq : q y = false) : fl q xs (k + 1) = fl q xs k := by
  unfold fl
  rw [List.take_add_one, h, List.filter_append, Option.toList_some, List.filter_cons_of_neg (by simp [hq])]; simp
theorem fl_all (q : Int → Bool) (xs : List Int) : fl q xs xs.length = xs.filter q := by unfold fl; rw [List.take_length]

set_option maxHeartbeats 4000000 in
set_option maxRecDepth 100000 in
theorem l3Corners_any (n : Nat) (v u : Value) (l : List Ed) (xs : List Int) (w : World) (h : Edges w v l) (hl : l.length ≤ 1048576) (hu : Ints w u xs) (hxl : xs.length ≤ 1048576) (hn : n ≤ 8) (hx : ∀ x ∈ xs, 0 ≤ x ∧ x < (n : Int)) :
    Calls Tryd.prog 34 #[.agg #[.int .i64 (n : Int), v], u] w (RowI w (cornersS n l xs)) := by
  obtain ⟨i0, hi, hz0, hz1, hz2⟩ := info_parts infoInt
  obtain ⟨A, c, rfl, -⟩ := h.form
  obtain ⟨A2, c2, rfl, hc2⟩ := hu.form
  have H := Lib.hid h
  have HU := Lib.hid hu
  have HC := Lib.hid hc2
  have HX := Lib.hid hx
  have HE : Hid (fl (fun x => decide (0 ≤ leastS n l xs x)) xs xs.length = cornersS n l xs) := fl_all _ _
  have b0 : Below w.heap.size w ((w.alloc (.cells #[.int .i64 (n : Int), .slice A l.length c] 29)).alloc (.cells #[] 3)) := ((Below.refl _ _).alloc (Nat.le_refl _) _).alloc (by simp) _
  have g0 := (Blk.new w 29 #[.int .i64 (n : Int), .slice A l.length c]).alloc (.cells #[] 3)
  have o0 := own_new0 (w.alloc (.cells #[.int .i64 (n : Int), .slice A l.length c] 29)) 3 1
  rw [World.size_alloc] at o0
  have HO := Lib.hid (own_base o0 (show w.heap.size + 1 ≤ w.heap.size + 1 by omega))
  clear h hu hc2 hx o0
  go_enter Tryd.func34, Tryd.ntmps34
  go_wp2_with fail
  go_loopg [5, 6] xs.length (fun g s i wr => ∃ k : Nat, k + g = xs.length ∧ i = .int .i64 (k : Int) ∧ wr.ownsRow (w.heap.size + 1) 3 1 s (fl (fun x => decide (0 ≤ leastS n l xs x)) xs k).length (cellsI (fl (fun x => decide (0 ≤ leastS n l xs x)) xs k)) ∧ Blk wr w.heap.size 29 #[.int .i64 (n : Int), .slice A l.length c] ∧ Below w.heap.size w wr)
  case atStart => exact ⟨0, by omega, rfl, HO.out, g0, b0⟩
  case round =>
    obtain ⟨k, hkg, rfl, hrow, hgb, hB⟩ := hrel
    obtain ⟨p0, p1, -, -⟩ := hgb.two
    have hlen := fl_len (fun x => decide (0 ≤ leastS n l xs x)) xs k
    cases gk with
    | zero =>
      obtain rfl : k = xs.length := by omega
      rw [HE.out] at hrow
      obtain ⟨A3, c3, rfl⟩ := own_form hrow
      go_wp2_with fail
      go_ret
      exact ⟨A3, c3, rfl, own_base hrow (by omega), hB⟩
    | succ g2 =>
      have hlt : k < xs.length := by omega
      have hlt' : (k : Int) < (xs.length : Int) := by omega
      obtain ⟨b, hb⟩ : ∃ b, xs[k]? = some b := ⟨_, List.getElem?_eq_getElem hlt⟩
      obtain ⟨ga, oa, rfl, c0⟩ := HC.out k b hb
      have m0 : wr.cell? ⟨ga, oa + k, none⟩ = some (.int .i64 b) := cell_keep c0 hB
      have HCV := Lib.hid (l3Cover_any n b (.slice A l.length c) _ l xs wr.drew (H.out.below hB.drew) hl (HU.out.below hB.drew) hxl hn (HX.out b (List.mem_of_getElem? hb)))
      have HG := Lib.hid (hgb.drewN 1)
      have HBD : Hid (Below w.heap.size w wr.drew) := hB.drew
      have HR := Lib.hid (own_below hrow (Below.refl _ _).drew)
      clear c0 hrow
      cases hp : decide (0 ≤ leastS n l xs b) with
      | false =>
        have HN := Lib.hid (fl_no (q := fun x => decide (0 ≤ leastS n l xs x)) hb hp)
        clear hb hgb hB
        generalize leastS n l xs b = z at *
        go_wp2_with fail
        go_region_held3 (fun w' => w'.cell? ⟨w.heap.size, 0, none⟩ = some (.int .i64 (n : Int)) ∧ w'.cell? ⟨w.heap.size, 1, none⟩ = some (.slice A l.length c) ∧ w'.cell? ⟨ga, oa + k, none⟩ = some (.int .i64 b)) (go_keep)
          ((go_at_call 35; refine (keep4 HCV.out (p := ⟨w.heap.size, 0, none⟩) (q := ⟨w.heap.size, 1, none⟩) (r := ⟨ga, oa + k, none⟩) (s := ⟨ga, oa + k, none⟩) (a := .int .i64 (n : Int)) (b := .slice A l.length c) (c := .int .i64 b) (d := .int .i64 b) ?_ ?_ ?_ ?_).mono ?_; (simp [*]); (simp [*]); (simp [*]); (simp [*]); rintro e w4 ⟨rfl, k0, k1, k2, -, b4⟩))
        have HG4 := Lib.hid (HG.out.below b4 HG.out.lt)
        have HB4 := Lib.hid (btrans HBD.out b4)
        have HR4 := Lib.hid (own_below HR.out b4)
        clear b4 p0 p1 m0 k0 k1 k2
        go_wp2_with fail
        go_roundg g2
        case measure => omega
        case rel => exact ⟨k + 1, by omega, by go_num, by rw [HN.out]; exact HR4.out, HG4.out, HB4.out⟩
      | true =>
        have HN := Lib.hid (fl_yes (q := fun x => decide (0 ≤ leastS n l xs x)) hb hp)
        clear hb hgb hB
        generalize leastS n l xs b = z at *
        generalize fl (fun x => decide (0 ≤ leastS n l xs x)) xs k = m at *
        go_wp2_with fail
        go_region_held3 (fun w' => w'.cell? ⟨w.heap.size, 0, none⟩ = some (.int .i64 (n : Int)) ∧ w'.cell? ⟨w.heap.size, 1, none⟩ = some (.slice A l.length c) ∧ w'.cell? ⟨ga, oa + k, none⟩ = some (.int .i64 b)) (go_keep)
          ((go_at_call 35; refine (keep4 HCV.out (p := ⟨w.heap.size, 0, none⟩) (q := ⟨w.heap.size, 1, none⟩) (r := ⟨ga, oa + k, none⟩) (s := ⟨ga, oa + k, none⟩) (a := .int .i64 (n : Int)) (b := .slice A l.length c) (c := .int .i64 b) (d := .int .i64 b) ?_ ?_ ?_ ?_).mono ?_; (simp [*]); (simp [*]); (simp [*]); (simp [*]); rintro e w4 ⟨rfl, k0, k1, k2, -, b4⟩))
        have hg4 := HG.out.below b4 HG.out.lt
        have HB4 := Lib.hid (btrans HBD.out b4)
        have hrow := own_below HR.out b4
        have hs4 := hg4.lt
        have HG4 := Lib.hid hg4
        clear b4 p0 p1 m0 k0 k1 hg4
        go_wp2_with (at_builtin; refine wpList_append_own _ rfl _ _ 26 rfl (w.heap.size + 1) 3 i0 (.int .i64 0) 1 8 Tryd.underlying26 hi hz0 hz1 hz2 rfl (by decide) _ _ _ rfl (hrow.alloc _) ⟨w4.heap.size, 0, none⟩ 1 1 [.int .i64 (b)] rfl rfl (cell_one_new _ _ _) (fun x hx => by simp at hx; subst hx; rfl) (by unfold maxLen; omega) (by omega) (by simp; omega) ?_; intro v2 w2 hown2 hgrow2 _)
        obtain ⟨hown3, hB2⟩ := push1 hrow hown2 hgrow2 (by omega)
        have HG5 := Lib.hid (HG4.out.below hB2 (by omega))
        have HB5 := Lib.hid (HB4.out.trans (hB2.mono (by omega)))
        clear hgrow2 hrow hown2 hp k2
        go_roundg g2
        case measure => omega
        case rel => exact ⟨k + 1, by omega, by go_num, by rw [HN.out]; exact hown3, HG5.out, HB5.out⟩
end Go.Proofs.YtcnfeijniidclaaDoor.covs
