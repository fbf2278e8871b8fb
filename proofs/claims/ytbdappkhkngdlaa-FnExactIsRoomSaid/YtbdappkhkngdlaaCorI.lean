/- The contracts of the program's cornersIn, IsCorner, CoversOf and CornersOf, and of slices.Contains. -/
import Derived.Test.YtbdappkhkngdlaaClosed
import Derived.Test.YtbdappkhkngdlaaCorS
namespace Go.Proofs.Ytbdappkhkngdlaa.cors
open Go.RowKit P2 words edges ints good adjs fns sets rets covs bitsI
set_option linter.unusedVariables false

set_option maxHeartbeats 2000000 in
set_option maxRecDepth 100000 in
theorem cornersIn_any (n B : Nat) (v : Value) (l : List Ed) (w : World) (h : Nums w v (clos l n)) (hg : P2.Good n l) (hn : n ≤ 8) (hB : B < 256) :
    Calls Try.prog 67 #[v, .int .u64 (B : Int)] w fun e w' => e = .returned (.int .u64 (cornersN l n B : Int)) ∧ Below w.heap.size w w' := by
  obtain ⟨A, c, rfl, -⟩ := h.form
  have H := Lib.hid h
  have HG := Lib.hid hg
  have hcl := clos_len l n
  rw [hcl] at H
  rw [hcl]
  clear h hg hcl
  go_enter Try.func67, Try.ntmps67
  go_wp2_with fail
  go_loopg [5, 9] n (fun g s i wr => ∃ k : Nat, k + g = n ∧ i = .int .i64 (k : Int) ∧ s = .int .u64 (numOf (cornerB l n B) k : Int) ∧ Below w.heap.size w wr)
  case atStart => exact ⟨0, by omega, rfl, rfl, Below.refl _ _⟩
  case round =>
    obtain ⟨k, hkg, rfl, rfl, hBw⟩ := hrel
    cases gk with
    | zero =>
      obtain rfl : k = n := by omega
      go_wp2_with fail
      go_ret
      exact ⟨rfl, hBw⟩
    | succ g2 =>
      have hlt : k < n := by omega
      have hlt' : (k : Int) < (n : Int) := by omega
      have hk8 : k ≤ 8 := by omega
      have HH := Lib.hid (has_any B k wr (by omega) hk8)
      have HCV := Lib.hid (coversIn_any n B k (.slice A n c) l wr (H.out.below hBw) HG.out hn hB hlt)
      have HT := Lib.hid (or_walk (numOf (cornerB l n B) k) k (numOf_lt _ hk8) hk8)
      have hcov : cornerB l n B k = (B.testBit k && coversN l n B k != 0) := rfl
      cases hbit : B.testBit k with
      | false =>
        have hc0 : cornerB l n B k = false := by rw [hcov, hbit]; rfl
        have HN := Lib.hid (numOf_no hc0)
        rw [hbit] at HH
        clear hcov hc0 hbit
        go_wp2_with fail
        refine HH.out.mono ?_
        rintro e w1 ⟨rfl, rfl⟩
        go_wp2_with fail
        go_roundg g2
        case measure => omega
        case rel => exact ⟨k + 1, by omega, by go_num, by rw [HN.out], hBw⟩
      | true =>
        rw [hbit] at HH
        have hcn : ((coversN l n B k : Int) != 0) = (coversN l n B k != 0) := by
          rw [Bool.eq_iff_iff, bne_iff_ne, bne_iff_ne]; omega
        cases hq : (coversN l n B k != 0) with
        | false =>
          have hc0 : cornerB l n B k = false := by rw [hcov, hbit, hq]; rfl
          have HN := Lib.hid (numOf_no hc0)
          rw [hq] at hcn
          clear hcov hc0 hbit
          generalize coversN l n B k = cv at *
          go_wp2_with fail
          refine HH.out.mono ?_
          rintro e w1 ⟨rfl, rfl⟩
          go_wp2_with fail
          refine HCV.out.mono ?_
          rintro e w2 ⟨rfl, b2⟩
          go_wp2_with fail
          go_roundg g2
          case measure => omega
          case rel => exact ⟨k + 1, by omega, by go_num, by rw [HN.out], btrans hBw b2⟩
        | true =>
          have hc0 : cornerB l n B k = true := by rw [hcov, hbit, hq]; rfl
          have HN := Lib.hid (numOf_yes hc0)
          rw [hq] at hcn
          clear hcov hc0 hbit
          generalize coversN l n B k = cv at *
          go_wp2_with fail
          refine HH.out.mono ?_
          rintro e w1 ⟨rfl, rfl⟩
          go_wp2_with fail
          refine HCV.out.mono ?_
          rintro e w2 ⟨rfl, b2⟩
          go_wp2_with fail
          go_roundg g2
          case measure => omega
          case rel => exact ⟨k + 1, by omega, by go_num, by rw [HN.out, HT.out], btrans hBw b2⟩

theorem set_code_lt {s : Int} {l : List Ed} {xs : List Int} (h : SetOk s l xs) : codeL xs < 256 :=
  code_lt (m := 8) fun x hx => by have := h.2.1 x hx; have := h.1.2.1; omega

set_option maxHeartbeats 1000000 in
theorem index_any (u : Value) (xs : List Int) (x : Int) (w : World) (hu : Ints w u xs) (hxl : xs.length ≤ 1048576) :
    Calls Try.prog 88 #[u, .int .i64 x] w fun e w' => (∃ i : Int, e = .returned (.int .i64 i) ∧ -1 ≤ i ∧ decide (0 ≤ i) = decide (x ∈ xs)) ∧ w = w' := by
  obtain ⟨A2, c2, rfl, hc⟩ := hu.form
  have HC := Lib.hid hc
  clear hu hc
  go_enter Try.func88, Try.ntmps88
  go_wp2_with fail
  go_loop [8] (fun i => ∃ k : Nat, k ≤ xs.length ∧ i = .int .i64 (k : Int) ∧ Hid (∀ j y, j < k → xs[j]? = some y → y ≠ x)) (fun i => xs.length - (intOf i).toNat)
  case atStart => exact ⟨0, Nat.zero_le _, rfl, fun j e h => by omega⟩
  case round =>
    obtain ⟨k, hk, rfl, hno⟩ := hrel
    by_cases hlt : k < xs.length
    · obtain ⟨y, hy⟩ : ∃ y, xs[k]? = some y := ⟨_, List.getElem?_eq_getElem hlt⟩
      obtain ⟨g, o, rfl, c0⟩ := HC.out k y hy
      have hlt' : (k : Int) < (xs.length : Int) := by omega
      by_cases hyx : y = x
      · have HN : Hid (x ∈ xs) := by show _ ∈ _; rw [← hyx]; exact List.mem_of_getElem? hy
        have d0 : (x == y) = true := by simp [hyx]
        clear hy hyx
        go_wp2_with fail
        go_ret
        exact ⟨⟨(k : Int), rfl, by omega, by first | exact ⟨fun _ => HN.out, fun _ => by omega⟩ | rw [decide_eq_true (show 0 ≤ (k : Int) by omega), decide_eq_true HN.out]⟩, rfl⟩
      · have HK : Hid (∀ j y, j < k + 1 → xs[j]? = some y → y ≠ x) := fun j z hj hz => by
          by_cases e : j = k
          · subst e; rw [hy] at hz; cases hz; exact hyx
          · exact hno.out j z (by omega) hz
        have d0 : (x == y) = false := by simp; omega
        clear hy hyx
        go_wp2_with fail
        go_round
        case rel => exact ⟨k + 1, by omega, by go_num, HK⟩
        case measure => simp [intOf]; omega
    · have HN : Hid (¬ x ∈ xs) := fun hx => by
        obtain ⟨j, hj⟩ := List.getElem?_of_mem hx
        exact hno.out j x (by have := (List.getElem?_eq_some_iff.1 hj).1; omega) hj rfl
      go_wp2_with fail
      go_ret
      exact ⟨⟨-1, rfl, by omega, by first | exact ⟨fun h => by omega, fun h => absurd h HN.out⟩ | (rw [decide_eq_false HN.out]; rfl)⟩, rfl⟩
theorem contains_any (u : Value) (xs : List Int) (x : Int) (w : World) (hu : Ints w u xs) (hxl : xs.length ≤ 1048576) :
    Calls Try.prog 54 #[u, .int .i64 x] w fun e w' => e = .returned (.bool (decide (x ∈ xs))) ∧ w = w' := by
  have HI := Lib.hid (index_any u xs x w hu hxl)
  obtain ⟨A2, c2, rfl, -⟩ := hu.form
  clear hu
  go_enter Try.func54, Try.ntmps54
  go_wp2_with fail
  refine HI.out.mono ?_
  rintro e w1 ⟨⟨i, rfl, hi, hd⟩, rfl⟩
  have HD := Lib.hid hd
  clear hd
  go_wp2_with fail
  go_ret
  exact ⟨ret_bool HD.out, rfl⟩

set_option maxHeartbeats 1000000 in
theorem implIsCorner_any (s x : Int) (v u : Value) (l : List Ed) (xs : List Int) (w : World) (h : Edges w v l) (hl : l.length ≤ 1048576) (hu : Ints w u xs) (hxl : xs.length ≤ 1048576) :
    Calls Try.prog 18 #[.agg #[.int .i64 s, v], u, .int .i64 x] w fun e w' => e = .returned (.tuple #[.bool (corV s l xs x), .bool (okG (CorOk s l xs x))]) ∧ Below w.heap.size w w' := by
  obtain ⟨A, c, rfl, -⟩ := h.form
  obtain ⟨A2, c2, rfl, -⟩ := hu.form
  have H := Lib.hid h
  have HU := Lib.hid hu
  have b0 : Below w.heap.size w (w.alloc (.cells #[.int .i64 s, .slice A l.length c] 29)) := (Below.refl _ _).alloc (Nat.le_refl _) _
  have g0 := Blk.new w 29 #[.int .i64 s, .slice A l.length c]
  have HG := Lib.hid (hasSet_any s _ _ l xs _ (h.below b0) hl (hu.below b0) hxl)
  have HHas := Lib.hid (fun (W : World) (hb : Below w.heap.size w W) => contains_any _ xs x W (hu.below hb) hxl)
  clear h hu
  by_cases hg : SetOk s l xs
  · rw [okG_yes hg] at HG
    by_cases hx : x ∈ xs
    · have hok : CorOk s l xs x := ⟨hg, hx⟩
      obtain ⟨n, rfl⟩ : ∃ n : Nat, s = (n : Int) := ⟨s.toNat, by have := hg.1.1; omega⟩
      have hx0 := hg.2.1 x hx
      have hn : n ≤ 8 := by have := hg.1.2.1; omega
      have HV : Hid (corV (n : Int) l xs x = (coversN l n (codeL xs) x.toNat != 0)) := by show _ = _; unfold corV; rw [okG_yes hok]; rfl
      have HOK := Lib.hid (okG_yes hok)
      have HGD := Lib.hid hg
      rw [show decide (x ∈ xs) = true from decide_eq_true hx] at HHas
      clear hg hx hok
      obtain ⟨m, rfl⟩ : ∃ m : Nat, x = (m : Int) := ⟨x.toNat, by omega⟩
      rw [Int.toNat_natCast] at HV
      go_enter Try.func18, Try.ntmps18
      go_wp2_with fail
      refine HG.out.mono ?_
      rintro e w1 ⟨rfl, b1⟩
      have e_w1 := btrans b0 b1
      have g1 := g0.below b1 g0.lt
      clear HG b0 b1 g0
      go_wp2_with fail
      refine (HHas.out w1 e_w1).mono ?_
      rintro e w2 ⟨rfl, rfl⟩
      obtain ⟨p0, p1, -, -⟩ := g1.two
      go_wp2_with fail
      refine (closedBits_any n _ l w1 (H.out.below e_w1) hl HGD.out.1 hn).mono ?_
      rintro e w3 ⟨A3, c3, rfl, r3, b3⟩
      have e_w3 := btrans e_w1 b3
      go_wp2_with fail
      refine (bitsOf_any _ xs w3 (HU.out.below e_w3) hxl (fun y hy => by have := HGD.out.2.1 y hy; omega)).mono ?_
      rintro e w4 ⟨rfl, rfl⟩
      go_wp2_with fail
      refine (coversIn_any n (codeL xs) m _ l w3 r3 HGD.out.1 hn (set_code_lt HGD.out) (by omega)).mono ?_
      rintro e w5 ⟨rfl, b5⟩
      have hcn : ((coversN l n (codeL xs) m : Int) != 0) = (coversN l n (codeL xs) m != 0) := by
        rw [Bool.eq_iff_iff, bne_iff_ne, bne_iff_ne]; omega
      have HCN := Lib.hid hcn
      clear hcn
      go_wp2_with fail
      go_ret2
      exact ⟨retBB (by rw [HV.out]; exact HCN.out) HOK.out.symm, btrans e_w3 b5⟩
    · have hok : ¬ CorOk s l xs x := fun h => hx h.2
      have HV : Hid (corV s l xs x = false) := by show _ = _; unfold corV; rw [okG_no hok]; rfl
      have HOK := Lib.hid (okG_no hok)
      rw [show decide (x ∈ xs) = false from decide_eq_false hx] at HHas
      clear hg hx hok
      go_enter Try.func18, Try.ntmps18
      go_wp2_with fail
      refine HG.out.mono ?_
      rintro e w1 ⟨rfl, b1⟩
      have e_w1 := btrans b0 b1
      clear HG b0 b1 g0
      go_wp2_with fail
      refine (HHas.out w1 e_w1).mono ?_
      rintro e w2 ⟨rfl, rfl⟩
      go_wp2_with fail
      go_ret2
      exact ⟨retBB HV.out.symm HOK.out.symm, e_w1⟩
  · rw [okG_no hg] at HG
    have hok : ¬ CorOk s l xs x := fun h => hg h.1
    have HV : Hid (corV s l xs x = false) := by show _ = _; unfold corV; rw [okG_no hok]; rfl
    have HOK := Lib.hid (okG_no hok)
    clear hg hok
    go_enter Try.func18, Try.ntmps18
    go_wp2_with fail
    refine HG.out.mono ?_
    rintro e w1 ⟨rfl, b1⟩
    have e_w1 := btrans b0 b1
    go_wp2_with fail
    go_ret2
    exact ⟨retBB HV.out.symm HOK.out.symm, e_w1⟩

set_option maxHeartbeats 1000000 in
theorem implCornersOf_any (s : Int) (v u : Value) (l : List Ed) (xs : List Int) (w : World) (h : Edges w v l) (hl : l.length ≤ 1048576) (hu : Ints w u xs) (hxl : xs.length ≤ 1048576) :
    Calls Try.prog 27 #[.agg #[.int .i64 s, v], u] w (RetI w (SetOk s l xs) (corL s l xs)) := by
  obtain ⟨A, c, rfl, -⟩ := h.form
  obtain ⟨A2, c2, rfl, -⟩ := hu.form
  have H := Lib.hid h
  have HU := Lib.hid hu
  have b0 : Below w.heap.size w (w.alloc (.cells #[.int .i64 s, .slice A l.length c] 29)) := (Below.refl _ _).alloc (Nat.le_refl _) _
  have g0 := Blk.new w 29 #[.int .i64 s, .slice A l.length c]
  have HG := Lib.hid (hasSet_any s _ _ l xs _ (h.below b0) hl (hu.below b0) hxl)
  clear h hu
  by_cases hg : SetOk s l xs
  · rw [okG_yes hg] at HG
    obtain ⟨n, rfl⟩ : ∃ n : Nat, s = (n : Int) := ⟨s.toNat, by have := hg.1.1; omega⟩
    have hn : n ≤ 8 := by have := hg.1.2.1; omega
    have HE : Hid (nw (bitB (cornersN l n (codeL xs))) 8 = corL (n : Int) l xs) := nodes_num hn
    have HOK := Lib.hid hg
    clear hg
    go_enter Try.func27, Try.ntmps27
    go_wp2_with fail
    refine HG.out.mono ?_
    rintro e w1 ⟨rfl, b1⟩
    have e_w1 := btrans b0 b1
    have g1 := g0.below b1 g0.lt
    clear HG b0 b1 g0
    obtain ⟨p0, p1, -, -⟩ := g1.two
    go_wp2_with fail
    refine (closedBits_any n _ l w1 (H.out.below e_w1) hl HOK.out.1 hn).mono ?_
    rintro e w3 ⟨A3, c3, rfl, r3, b3⟩
    have e_w3 := btrans e_w1 b3
    go_wp2_with fail
    refine (bitsOf_any _ xs w3 (HU.out.below e_w3) hxl (fun y hy => by have := HOK.out.2.1 y hy; omega)).mono ?_
    rintro e w4 ⟨rfl, rfl⟩
    go_wp2_with fail
    refine (cornersIn_any n (codeL xs) _ l w3 r3 HOK.out.1 hn (set_code_lt HOK.out)).mono ?_
    rintro e w5 ⟨rfl, b5⟩
    have e_w5 := btrans e_w3 b5
    have hc8 : cornersN l n (codeL xs) < 256 := numOf_lt _ hn
    go_wp2_with fail
    refine (nodes_any (cornersN l n (codeL xs)) w5 (by omega)).mono ?_
    rw [HE.out]
    rintro e w6 ⟨A6, c6, rfl, o6, b6⟩
    go_wp2_with fail
    go_ret2
    exact RetI.yes HOK.out (own_base o6 e_w5.size) (btrans e_w5 b6)
  · rw [okG_no hg] at HG
    have HN := Lib.hid hg
    clear hg
    go_enter Try.func27, Try.ntmps27
    go_wp2_with fail
    refine HG.out.mono ?_
    rintro e w1 ⟨rfl, b1⟩
    have e_w1 := btrans b0 b1
    go_wp2_with fail
    go_ret2
    exact RetI.nil HN.out e_w1

theorem nodesB_ok {s x : Int} {l : List Ed} : nodesB s l [x] = okG (NodeOk s l x) := by
  by_cases h : NodeOk s l x
  · rw [okG_yes h, nodesB_yes h.1 (by simpa using h.2)]
  · rw [okG_no h, nodesB_no (fun hh => h ⟨hh.1, hh.2 x (by simp)⟩)]
set_option maxHeartbeats 2000000 in
set_option maxRecDepth 100000 in
theorem implCoversOf_any (s x : Int) (v : Value) (l : List Ed) (w : World) (h : Edges w v l) (hl : l.length ≤ 1048576) :
    Calls Try.prog 22 #[.agg #[.int .i64 s, v], .int .i64 x] w (RetI w (NodeOk s l x) (covL s l x)) := by
  obtain ⟨A, c, rfl, -⟩ := h.form
  have H := Lib.hid h
  have b0 : Below w.heap.size w ((w.alloc (.cells #[.int .i64 s, .slice A l.length c] 29)).alloc (.cells #[.int .i64 x] 3)) := ((Below.refl _ _).alloc (Nat.le_refl _) _).alloc (by simp) _
  have g0 := (Blk.new w 29 #[.int .i64 s, .slice A l.length c]).alloc (.cells #[.int .i64 x] 3)
  have i0 := Reads.of_own (own_new1 (w.alloc (.cells #[.int .i64 s, .slice A l.length c] 29)) 3 x)
  simp only [World.size_alloc] at i0
  have HN := Lib.hid (hasNodes_any s (.slice A l.length c) (.slice (some ⟨w.heap.size + 1, 0, none⟩) 1 1) l [x] _ (h.below b0) hl i0 (by simp))
  rw [nodesB_ok] at HN
  clear h i0
  by_cases hok : NodeOk s l x
  · rw [okG_yes hok] at HN
    have HOK := Lib.hid hok
    obtain ⟨hg, hx0, hx1⟩ := hok
    obtain ⟨n, rfl⟩ : ∃ n : Nat, s = (n : Int) := ⟨s.toNat, by have := hg.1; omega⟩
    obtain ⟨m, rfl⟩ : ∃ m : Nat, x = (m : Int) := ⟨x.toNat, by omega⟩
    have hn : n ≤ 8 := by have := hg.2.1; omega
    have hm : m < n := by omega
    have hpn : 2 ^ n ≤ 256 := by have := Nat.pow_le_pow_right (show 0 < 2 by decide) hn; simpa using this
    have hp1 : 1 ≤ 2 ^ n := Nat.one_le_two_pow
    have HE : Hid (nw (bitB (coversN l n (2 ^ n - 1) m)) 8 = covL (n : Int) l (m : Int)) := nodes_num hn
    have HW1 : Hid (IntKind.u64.wrap (IntKind.u64.wrap ((2 : Int) ^ n) - 1) = ((2 ^ n - 1 : Nat) : Int)) := by
      show _ = _
      rw [wrap_pow hn, IntKind.wrap_u64]
      generalize 2 ^ n = z at *
      omega
    have HGD := Lib.hid hg
    have HCB := Lib.hid (fun (W : World) (hb : Below w.heap.size w W) => closedBits_any n _ l W (H.out.below hb) hl hg hn)
    have HCV := Lib.hid (fun (W : World) (v : Value) (hr : Nums W v (clos l n)) => coversIn_any n (2 ^ n - 1) m v l W hr hg hn (by omega) hm)
    have HND := Lib.hid (fun (W : World) => nodes_any (coversN l n (2 ^ n - 1) m) W (by have : coversN l n (2 ^ n - 1) m < 256 := numOf_lt _ hn; omega))
    rw [HE.out] at HND
    clear hg hx0 hx1
    go_enter Try.func22, Try.ntmps22
    go_wp2_with fail
    refine HN.out.mono ?_
    rintro e w1 ⟨rfl, b1⟩
    have e1 := btrans b0 b1
    have g1 := g0.below b1 (by simp; omega)
    clear HN b0 b1 g0
    obtain ⟨p0, p1, -, -⟩ := g1.two
    have HD : Hid (Below w.heap.size w w1.drew) := e1.drew
    go_wp2_with fail
    go_region_held3 (fun w' => w'.cell? ⟨w.heap.size, 0, none⟩ = some (.int .i64 (n : Int)) ∧ w'.cell? ⟨w.heap.size, 1, none⟩ = some (.slice A l.length c)) (go_keep)
      (first | (go_at_call 56; refine (keepb2 (HCB.out _ HD.out) (fun _ _ h => by obtain ⟨_, _, _, _, h⟩ := h; exact h) (p := ⟨w.heap.size, 0, none⟩) (q := ⟨w.heap.size, 1, none⟩) (a := .int .i64 (n : Int)) (b := .slice A l.length c) ?_ ?_).mono ?_; (simp [*]); (simp [*]); rintro e w4 ⟨⟨A4, c4, rfl, r4, b4⟩, k0, k1⟩)
             | (go_at_call 55; rw [HW1.out]; refine (keepb2 (HCV.out w4 _ r4) (fun _ _ h => h.2) (p := ⟨w.heap.size, 0, none⟩) (q := ⟨w.heap.size, 1, none⟩) (a := .int .i64 (n : Int)) (b := .slice A l.length c) ?_ ?_).mono ?_; (simp [*]); (simp [*]); rintro e w5 ⟨⟨rfl, b5⟩, k2, k3⟩)
             | (go_at_call 64; refine (keepb2 (HND.out w5) (fun _ _ h => h.below) (p := ⟨w.heap.size, 0, none⟩) (q := ⟨w.heap.size, 1, none⟩) (a := .int .i64 (n : Int)) (b := .slice A l.length c) ?_ ?_).mono ?_; (simp [*]); (simp [*]); rintro e w6 ⟨⟨A6, c6, rfl, o6, b6⟩, k4, k5⟩))
    all_goals
      have e5 := btrans (btrans HD.out b4) b5
      go_wp2_with fail
      go_ret2
      exact RetI.yes HOK.out (own_base o6 e5.size) (btrans e5 b6)
  · rw [okG_no hok] at HN
    have HNO := Lib.hid hok
    clear hok
    go_enter Try.func22, Try.ntmps22
    go_wp2_with fail
    refine HN.out.mono ?_
    rintro e w1 ⟨rfl, b1⟩
    go_wp2_with fail
    go_ret2
    exact RetI.nil HNO.out (btrans b0 b1)
end Go.Proofs.Ytbdappkhkngdlaa.cors
