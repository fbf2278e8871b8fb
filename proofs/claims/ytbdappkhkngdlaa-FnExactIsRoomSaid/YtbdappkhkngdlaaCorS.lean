/- The contracts of the model's l3Both, IsCorner, CoversOf and CornersOf. -/
import Derived.Test.YtbdappkhkngdlaaCovS
namespace Go.Proofs.Ytbdappkhkngdlaa.cors
open Go.RowKit P2 words edges ints good adjs fns sets apps neigh balls rets covs
set_option linter.unusedVariables false

theorem retBB {a b c d : Bool} (h : a = c) (h2 : b = d) : Ending.returned (.tuple #[.bool a, .bool b]) = .returned (.tuple #[.bool c, .bool d]) := by rw [h, h2]
theorem coverS_int {n : Nat} {l : List Ed} {xs : List Int} {x y : Int} (hg : P2.Good n l) (hxs : ∀ z ∈ xs, 0 ≤ z ∧ z < (n : Int)) (hx : 0 ≤ x) (hy : 0 ≤ y) :
    coverS n l xs x y = coverB l (codeL xs) x.toNat y.toNat := by
  have := coverS_eq (x := x.toNat) (y := y.toNat) hg hxs
  rwa [show ((x.toNat : Nat) : Int) = x from by omega, show ((y.toNat : Nat) : Int) = y from by omega] at this
theorem leastS_int {n : Nat} {l : List Ed} {xs : List Int} {x : Int} (hg : P2.Good n l) (hxs : ∀ z ∈ xs, 0 ≤ z ∧ z < (n : Int)) (hx : 0 ≤ x) :
    decide (0 ≤ leastS n l xs x) = (coversN l n (codeL xs) x.toNat != 0) := by
  have := any_covers (x := x.toNat) hg hxs
  rw [show ((x.toNat : Nat) : Int) = x from by omega] at this
  rw [leastS_some (fun z hz => (hxs z hz).1), this]

set_option maxHeartbeats 1000000 in
theorem l3Both_any (s : Int) (v u : Value) (l : List Ed) (xs : List Int) (w : World) (h : Edges w v l) (hl : l.length ≤ 1048576) (hu : Ints w u xs) (hxl : xs.length ≤ 1048576) (hs1 : -9223372036854775808 ≤ s) (hs2 : s ≤ 9223372036854775807) :
    Calls Try.prog 49 #[.agg #[.int .i64 s, v], u] w fun e w' => e = .returned (.bool (okG (SetOk s l xs))) ∧ Below w.heap.size w w' := by
  obtain ⟨A, c, rfl, -⟩ := h.form
  obtain ⟨A2, c2, rfl, -⟩ := hu.form
  have H := Lib.hid h
  have HU := Lib.hid hu
  have b0 : Below w.heap.size w (w.alloc (.cells #[.int .i64 s, .slice A l.length c] 29)) := (Below.refl _ _).alloc (Nat.le_refl _) _
  have g0 := Blk.new w 29 #[.int .i64 s, .slice A l.length c]
  have HG := Lib.hid (l2Good_any s _ l _ (h.below b0) hl hs1 hs2)
  clear h hu
  by_cases hgd : P2.Good s l
  · rw [goodB_yes hgd] at HG
    have hs0 := hgd.1
    have hs8 := hgd.2.1
    have HI : Hid (okG (RisesIn xs 0 (s - 1)) = okG (SetOk s l xs)) := by show _ = _; rw [show RisesIn xs 0 (s - 1) = SetOk s l xs from propext (setOk_iff hgd)]
    clear hgd
    go_enter Try.func49, Try.ntmps49
    go_wp2_with fail
    refine HG.out.mono ?_
    rintro e w1 ⟨rfl, b1⟩
    have e_w1 := btrans b0 b1
    have g1 := g0.below b1 g0.lt
    obtain ⟨p0, p1, -, -⟩ := g1.two
    clear HG b0 b1 g0
    go_wp2_with fail
    refine (l2Set_any s (.slice A l.length c) (.slice A2 xs.length c2) l xs w1 (HU.out.below e_w1) hxl hs0 hs8).mono ?_
    rw [HI.out]
    rintro e w2 ⟨rfl, b2⟩
    go_wp2_with fail
    go_ret
    exact ⟨rfl, btrans e_w1 b2⟩
  · rw [goodB_no hgd] at HG
    have HN : Hid (¬ SetOk s l xs) := fun h => hgd h.1
    clear hgd
    go_enter Try.func49, Try.ntmps49
    go_wp2_with fail
    refine HG.out.mono ?_
    rintro e w1 ⟨rfl, b1⟩
    have e_w1 := btrans b0 b1
    go_wp2_with fail
    go_ret
    exact ⟨ret_bool (okG_no HN.out).symm, e_w1⟩

/-- a node of a set is a corner in it -/
def CorOk (s : Int) (l : List Ed) (xs : List Int) (x : Int) : Prop := SetOk s l xs ∧ x ∈ xs
noncomputable def corV (s : Int) (l : List Ed) (xs : List Int) (x : Int) : Bool := okG (CorOk s l xs x) && (coversN l s.toNat (codeL xs) x.toNat != 0)

set_option maxHeartbeats 1000000 in
theorem specIsCorner_any (s x : Int) (v u : Value) (l : List Ed) (xs : List Int) (w : World) (h : Edges w v l) (hl : l.length ≤ 1048576) (hu : Ints w u xs) (hxl : xs.length ≤ 1048576) (hs1 : -9223372036854775808 ≤ s) (hs2 : s ≤ 9223372036854775807) :
    Calls Try.prog 15 #[.agg #[.int .i64 s, v], u, .int .i64 x] w fun e w' => e = .returned (.tuple #[.bool (corV s l xs x), .bool (okG (CorOk s l xs x))]) ∧ Below w.heap.size w w' := by
  obtain ⟨A, c, rfl, -⟩ := h.form
  obtain ⟨A2, c2, rfl, -⟩ := hu.form
  have H := Lib.hid h
  have HU := Lib.hid hu
  have b0 : Below w.heap.size w (w.alloc (.cells #[.int .i64 s, .slice A l.length c] 29)) := (Below.refl _ _).alloc (Nat.le_refl _) _
  have g0 := Blk.new w 29 #[.int .i64 s, .slice A l.length c]
  have HG := Lib.hid (l3Both_any s _ _ l xs _ (h.below b0) hl (hu.below b0) hxl hs1 hs2)
  have HHas := Lib.hid (fun (W : World) (hb : Below w.heap.size w W) => l1Has_any _ xs x W (hu.below hb) hxl)
  clear h hu
  by_cases hg : SetOk s l xs
  · rw [okG_yes hg] at HG
    by_cases hx : x ∈ xs
    · have hok : CorOk s l xs x := ⟨hg, hx⟩
      obtain ⟨n, rfl⟩ : ∃ n : Nat, s = (n : Int) := ⟨s.toNat, by have := hg.1.1; omega⟩
      have hx0 := hg.2.1 x hx
      have hn : n ≤ 8 := by have := hg.1.2.1; omega
      have HL := Lib.hid (leastS_int hg.1 hg.2.1 hx0.1)
      have HV : Hid (corV (n : Int) l xs x = (coversN l n (codeL xs) x.toNat != 0)) := by show _ = _; unfold corV; rw [okG_yes hok]; rfl
      have HOK := Lib.hid (okG_yes hok)
      have HIN := Lib.hid hg.2.1
      rw [show decide (x ∈ xs) = true from decide_eq_true hx] at HHas
      clear hg hx hok
      go_enter Try.func15, Try.ntmps15
      go_wp2_with fail
      refine HG.out.mono ?_
      rintro e w1 ⟨rfl, b1⟩
      have e_w1 := btrans b0 b1
      have g1 := g0.below b1 g0.lt
      clear HG b0 b1 g0
      go_wp2_with fail
      refine (HHas.out w1 e_w1).mono ?_
      rintro e w2 ⟨rfl, rfl⟩
      obtain ⟨p0, p1, -, -⟩ := g1.two
      go_wp2_with fail
      refine (l3Cover_any n x _ _ l xs w1 (H.out.below e_w1) hl (HU.out.below e_w1) hxl hn hx0).mono ?_
      rintro e w3 ⟨rfl, b3⟩
      have hl0 := HL.out
      generalize leastS n l xs x = z at *
      have HL0 := Lib.hid hl0
      clear hl0
      go_wp2_with fail
      go_ret2
      exact ⟨retBB (by rw [HV.out, ← HL0.out]) HOK.out.symm, btrans e_w1 b3⟩
    · have hok : ¬ CorOk s l xs x := fun h => hx h.2
      have HV : Hid (corV s l xs x = false) := by show _ = _; unfold corV; rw [okG_no hok]; rfl
      have HOK := Lib.hid (okG_no hok)
      rw [show decide (x ∈ xs) = false from decide_eq_false hx] at HHas
      clear hg hx hok
      go_enter Try.func15, Try.ntmps15
      go_wp2_with fail
      refine HG.out.mono ?_
      rintro e w1 ⟨rfl, b1⟩
      have e_w1 := btrans b0 b1
      clear HG b0 b1 g0
      go_wp2_with fail
      refine (HHas.out w1 e_w1).mono ?_
      rintro e w2 ⟨rfl, rfl⟩
      go_wp2_with fail
      go_ret2
      exact ⟨retBB HV.out.symm HOK.out.symm, e_w1⟩
  · rw [okG_no hg] at HG
    have hok : ¬ CorOk s l xs x := fun h => hg h.1
    have HV : Hid (corV s l xs x = false) := by show _ = _; unfold corV; rw [okG_no hok]; rfl
    have HOK := Lib.hid (okG_no hok)
    clear hg hok
    go_enter Try.func15, Try.ntmps15
    go_wp2_with fail
    refine HG.out.mono ?_
    rintro e w1 ⟨rfl, b1⟩
    have e_w1 := btrans b0 b1
    go_wp2_with fail
    go_ret2
    exact ⟨retBB HV.out.symm HOK.out.symm, e_w1⟩

noncomputable def corL (s : Int) (l : List Ed) (xs : List Int) : List Int := nw (cornerB l s.toNat (codeL xs)) s.toNat
theorem corL_len (s : Int) (l : List Ed) (xs : List Int) : (inG (SetOk s l xs) (corL s l xs)).length ≤ 1048576 := inG_len fun h => by
  have := nw_len (cornerB l s.toNat (codeL xs)) s.toNat
  have := h.1.2.1
  unfold corL; omega
set_option maxHeartbeats 1000000 in
theorem specCornersOf_any (s : Int) (v u : Value) (l : List Ed) (xs : List Int) (w : World) (h : Edges w v l) (hl : l.length ≤ 1048576) (hu : Ints w u xs) (hxl : xs.length ≤ 1048576) (hs1 : -9223372036854775808 ≤ s) (hs2 : s ≤ 9223372036854775807) :
    Calls Try.prog 26 #[.agg #[.int .i64 s, v], u] w (RetI w (SetOk s l xs) (corL s l xs)) := by
  obtain ⟨A, c, rfl, -⟩ := h.form
  obtain ⟨A2, c2, rfl, -⟩ := hu.form
  have H := Lib.hid h
  have HU := Lib.hid hu
  have b0 : Below w.heap.size w (w.alloc (.cells #[.int .i64 s, .slice A l.length c] 29)) := (Below.refl _ _).alloc (Nat.le_refl _) _
  have g0 := Blk.new w 29 #[.int .i64 s, .slice A l.length c]
  have HG := Lib.hid (l3Both_any s _ _ l xs _ (h.below b0) hl (hu.below b0) hxl hs1 hs2)
  clear h hu
  by_cases hg : SetOk s l xs
  · rw [okG_yes hg] at HG
    obtain ⟨n, rfl⟩ : ∃ n : Nat, s = (n : Int) := ⟨s.toNat, by have := hg.1.1; omega⟩
    have hn : n ≤ 8 := by have := hg.1.2.1; omega
    have HE : Hid (cornersS n l xs = corL (n : Int) l xs) := cornersS_eq hg.1 hg.2.2 hg.2.1
    have HOK := Lib.hid hg
    clear hg
    go_enter Try.func26, Try.ntmps26
    go_wp2_with fail
    refine HG.out.mono ?_
    rintro e w1 ⟨rfl, b1⟩
    have e_w1 := btrans b0 b1
    have g1 := g0.below b1 g0.lt
    clear HG b0 b1 g0
    obtain ⟨p0, p1, -, -⟩ := g1.two
    go_wp2_with fail
    refine (l3Corners_any n _ _ l xs w1 (H.out.below e_w1) hl (HU.out.below e_w1) hxl hn HOK.out.2.1).mono ?_
    rw [HE.out]
    rintro e w3 ⟨A3, c3, rfl, o3, b3⟩
    go_wp2_with fail
    go_ret2
    exact RetI.yes HOK.out (own_base o3 e_w1.size) (btrans e_w1 b3)
  · rw [okG_no hg] at HG
    have HN := Lib.hid hg
    clear hg
    go_enter Try.func26, Try.ntmps26
    go_wp2_with fail
    refine HG.out.mono ?_
    rintro e w1 ⟨rfl, b1⟩
    have e_w1 := btrans b0 b1
    go_wp2_with fail
    go_ret2
    exact RetI.no HN.out (own_base (own_new0 _ _ _) e_w1.size) (e_w1.alloc e_w1.size _)

/-- a valid Graph and a node -/
def NodeOk (s : Int) (l : List Ed) (x : Int) : Prop := P2.Good s l ∧ 0 ≤ x ∧ x < s
noncomputable def covL (s : Int) (l : List Ed) (x : Int) : List Int := nw (coverB l (2 ^ s.toNat - 1) x.toNat) s.toNat
theorem covL_len (s x : Int) (l : List Ed) : (inG (NodeOk s l x) (covL s l x)).length ≤ 1048576 := inG_len fun h => by
  have := nw_len (coverB l (2 ^ s.toNat - 1) x.toNat) s.toNat
  have := h.1.2.1
  unfold covL; omega
set_option maxHeartbeats 2000000 in
set_option maxRecDepth 100000 in
theorem specCoversOf_any (s x : Int) (v : Value) (l : List Ed) (w : World) (h : Edges w v l) (hl : l.length ≤ 1048576) (hs1 : -9223372036854775808 ≤ s) (hs2 : s ≤ 9223372036854775807) :
    Calls Try.prog 21 #[.agg #[.int .i64 s, v], .int .i64 x] w (RetI w (NodeOk s l x) (covL s l x)) := by
  obtain ⟨i0, hi, hz0, hz1, hz2⟩ := info_parts infoInt
  obtain ⟨A, c, rfl, -⟩ := h.form
  have H := Lib.hid h
  have b0 : Below w.heap.size w ((w.alloc (.cells #[.int .i64 s, .slice A l.length c] 29)).alloc (.cells #[] 3)) := ((Below.refl _ _).alloc (Nat.le_refl _) _).alloc (by simp) _
  have g0 := (Blk.new w 29 #[.int .i64 s, .slice A l.length c]).alloc (.cells #[] 3)
  have o0 := own_new0 (w.alloc (.cells #[.int .i64 s, .slice A l.length c] 29)) 3 1
  rw [World.size_alloc] at o0
  have HO := Lib.hid o0
  have HG := Lib.hid (l2Good_any s _ l _ (h.below b0) hl hs1 hs2)
  clear h o0
  by_cases hgd : P2.Good s l
  · rw [goodB_yes hgd] at HG
    have h0 := hgd.1
    have h8 := hgd.2.1
    obtain ⟨n, rfl⟩ : ∃ n : Nat, s = (n : Int) := ⟨s.toNat, by omega⟩
    have hn : n ≤ 8 := by omega
    by_cases hx : 0 ≤ x ∧ x < (n : Int)
    · have hI : inB x 0 ((n : Int) - 1) = true := by simp [inB]; omega
      have HOK : Hid (NodeOk (n : Int) l x) := ⟨hgd, hx⟩
      have HCE : Hid (∀ y : Nat, coverS n l (allN n) x (y : Int) = coverB l (2 ^ n - 1) x.toNat y) := fun y => by
        have := coverS_int (y := (y : Int)) hgd (xs := allN n) (fun z hz => mem_allN.1 hz) hx.1 (by omega)
        rwa [code_all, Int.toNat_natCast] at this
      have HLE : Hid (nw (coverB l (2 ^ n - 1) x.toNat) n = covL (n : Int) l x) := rfl
      clear hgd
      go_enter Try.func21, Try.ntmps21
      go_wp2_with fail
      refine HG.out.mono ?_
      rintro e w1 ⟨rfl, b1⟩
      have e1 := btrans b0 b1
      have g1 := g0.below b1 (by simp; omega)
      have HO1 := Lib.hid (own_below HO.out b1)
      obtain ⟨p0, p1, -, -⟩ := g1.two
      clear HG g0 b0 b1
      go_wp2_with fail
      refine (l2Node_any (n : Int) x _ l w1 (H.out.below e1) h0 h8).mono ?_
      rintro e w2 ⟨rfl, b2⟩
      have e2 := btrans e1 b2
      have g2 := g1.below b2 g1.lt
      have HO2 := Lib.hid (own_below HO1.out b2)
      clear p0 p1 g1 b2 e1
      go_wp2_with fail
      go_loopg [6, 7] n (fun g s i wr => ∃ k : Nat, k + g = n ∧ i = .int .i64 (k : Int) ∧ wr.ownsRow (w.heap.size + 1) 3 1 s (nw (coverB l (2 ^ n - 1) x.toNat) k).length (cellsI (nw (coverB l (2 ^ n - 1) x.toNat) k)) ∧ Blk wr w.heap.size 29 #[.int .i64 (n : Int), .slice A l.length c] ∧ Below w.heap.size w wr)
      case atStart => exact ⟨0, by omega, rfl, HO2.out, g2, e2⟩
      case round =>
        clear g2
        obtain ⟨k, hkg, rfl, hrow, hgb, hB⟩ := hrel
        obtain ⟨p0, p1, -, -⟩ := hgb.two
        have hlen := nw_len (coverB l (2 ^ n - 1) x.toNat) k
        cases gk with
        | zero =>
          obtain rfl : k = n := by omega
          rw [HLE.out] at hrow
          obtain ⟨A3, c3, rfl⟩ := own_form hrow
          go_wp2_with fail
          go_ret2
          exact RetI.yes HOK.out (own_base hrow (by omega)) hB
        | succ g2 =>
          have hlt : k < n := by omega
          have hlt' : (k : Int) < (n : Int) := by omega
          have HAL := Lib.hid (l2All_any n (.slice A l.length c) wr.drew hn)
          have HCV := Lib.hid (fun (W : World) (u : Value) (hb : Below wr.drew.heap.size wr.drew W) (hu : Ints W u (allN n)) => l3Covers_any n x (k : Int) (.slice A l.length c) u l (allN n) W (H.out.below (btrans hB.drew hb)) hl hu (by rw [allN_len]; omega) hn hx)
          rw [show ∀ y : Nat, coverS n l (allN n) x (y : Int) = coverB l (2 ^ n - 1) x.toNat y from HCE.out] at HCV
          have HG2 := Lib.hid (hgb.drewN 1)
          have HBD : Hid (Below w.heap.size w wr.drew) := hB.drew
          have HR := Lib.hid (own_below hrow (Below.refl _ _).drew)
          clear hrow hgb hB
          cases hp : coverB l (2 ^ n - 1) x.toNat k with
          | false =>
            have HN := Lib.hid (nw_no hp)
            rw [hp] at HCV
            clear hp
            go_wp2_with fail
            go_region_held3 (fun w' => w'.cell? ⟨w.heap.size, 0, none⟩ = some (.int .i64 (n : Int)) ∧ w'.cell? ⟨w.heap.size, 1, none⟩ = some (.slice A l.length c)) (go_keep)
              (first | (go_at_call 62; refine (keepb2 HAL.out (fun _ _ h => h.below) (p := ⟨w.heap.size, 0, none⟩) (q := ⟨w.heap.size, 1, none⟩) (a := .int .i64 (n : Int)) (b := .slice A l.length c) ?_ ?_).mono ?_; (simp [*]); (simp [*]); rintro e w4 ⟨⟨A4, c4, rfl, o4, b4⟩, k0, k1⟩)
                     | (go_at_call 61; refine (keepb2 (HCV.out w4 _ b4 (Reads.of_own o4)) (fun _ _ h => h.2) (p := ⟨w.heap.size, 0, none⟩) (q := ⟨w.heap.size, 1, none⟩) (a := .int .i64 (n : Int)) (b := .slice A l.length c) ?_ ?_).mono ?_; (simp [*]); (simp [*]); rintro e w5 ⟨⟨rfl, b5⟩, k2, k3⟩))
            have b45 := btrans b4 b5
            have HG5 := Lib.hid (HG2.out.below b45 HG2.out.lt)
            have HB5 := Lib.hid (btrans HBD.out b45)
            have HR5 := Lib.hid (own_below HR.out b45)
            clear b4 b5 b45 o4 p0 p1 k0 k1 k2 k3
            go_wp2_with fail
            go_roundg g2
            case measure => omega
            case rel => exact ⟨k + 1, by omega, by go_num, by rw [HN.out]; exact HR5.out, HG5.out, HB5.out⟩
          | true =>
            have HN := Lib.hid (nw_yes hp)
            rw [hp] at HCV
            clear hp
            generalize nw (coverB l (2 ^ n - 1) x.toNat) k = m at *
            go_wp2_with fail
            go_region_held3 (fun w' => w'.cell? ⟨w.heap.size, 0, none⟩ = some (.int .i64 (n : Int)) ∧ w'.cell? ⟨w.heap.size, 1, none⟩ = some (.slice A l.length c)) (go_keep)
              (first | (go_at_call 62; refine (keepb2 HAL.out (fun _ _ h => h.below) (p := ⟨w.heap.size, 0, none⟩) (q := ⟨w.heap.size, 1, none⟩) (a := .int .i64 (n : Int)) (b := .slice A l.length c) ?_ ?_).mono ?_; (simp [*]); (simp [*]); rintro e w4 ⟨⟨A4, c4, rfl, o4, b4⟩, k0, k1⟩)
                     | (go_at_call 61; refine (keepb2 (HCV.out w4 _ b4 (Reads.of_own o4)) (fun _ _ h => h.2) (p := ⟨w.heap.size, 0, none⟩) (q := ⟨w.heap.size, 1, none⟩) (a := .int .i64 (n : Int)) (b := .slice A l.length c) ?_ ?_).mono ?_; (simp [*]); (simp [*]); rintro e w5 ⟨⟨rfl, b5⟩, k2, k3⟩))
            have b45 := btrans b4 b5
            have hg5 := HG2.out.below b45 HG2.out.lt
            have hs5 := hg5.lt
            have HG5 := Lib.hid hg5
            have HB5 := Lib.hid (btrans HBD.out b45)
            have hrow := own_below HR.out b45
            clear b4 b5 b45 o4 p0 p1 k0 k1 k2 k3 hg5
            go_wp2_with (at_builtin; refine wpList_append_own _ rfl _ _ 25 rfl (w.heap.size + 1) 3 i0 (.int .i64 0) 1 8 Try.underlying25 hi hz0 hz1 hz2 rfl (by decide) _ _ _ rfl (hrow.alloc _) ⟨w5.heap.size, 0, none⟩ 1 1 [.int .i64 ((k : Int))] rfl rfl (cell_one_new _ _ _) (fun x hx => by simp at hx; subst hx; rfl) (by unfold maxLen; omega) (by omega) (by simp; omega) ?_; intro v2 w2 hown2 hgrow2 _)
            obtain ⟨hown3, hB2⟩ := push1 hrow hown2 hgrow2 (by omega)
            have HG6 := Lib.hid (HG5.out.below hB2 (by omega))
            have HB6 := Lib.hid (HB5.out.trans (hB2.mono (by omega)))
            clear hgrow2 hrow hown2
            go_roundg g2
            case measure => omega
            case rel => exact ⟨k + 1, by omega, by go_num, by rw [HN.out]; exact hown3, HG6.out, HB6.out⟩
    · have hI : inB x 0 ((n : Int) - 1) = false := by simp [inB]; omega
      have HN : Hid (¬ NodeOk (n : Int) l x) := fun h => hx h.2
      clear hgd hx
      go_enter Try.func21, Try.ntmps21
      go_wp2_with fail
      refine HG.out.mono ?_
      rintro e w1 ⟨rfl, b1⟩
      have e1 := btrans b0 b1
      have g1 := g0.below b1 (by simp; omega)
      have HO1 := Lib.hid (own_below HO.out b1)
      obtain ⟨p0, p1, -, -⟩ := g1.two
      clear HG g0 b0 b1
      go_wp2_with fail
      refine (l2Node_any (n : Int) x _ l w1 (H.out.below e1) h0 h8).mono ?_
      rintro e w2 ⟨rfl, b2⟩
      have e2 := btrans e1 b2
      have HO2 := Lib.hid (own_below HO1.out b2)
      go_wp2_with fail
      go_ret2
      exact RetI.no HN.out (own_base HO2.out (by omega)) e2
  · rw [goodB_no hgd] at HG
    have HN : Hid (¬ NodeOk s l x) := fun h => hgd h.1
    clear hgd
    go_enter Try.func21, Try.ntmps21
    go_wp2_with fail
    refine HG.out.mono ?_
    rintro e w1 ⟨rfl, b1⟩
    have e1 := btrans b0 b1
    have HO1 := Lib.hid (own_below HO.out b1)
    go_wp2_with fail
    go_ret2
    exact RetI.no HN.out (own_base HO1.out (by omega)) e1
end Go.Proofs.Ytbdappkhkngdlaa.cors
