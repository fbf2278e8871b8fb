/- Forcing: the contracts of the model's l5Rest, FortOutside, l9Power, PowerAll and l9Reach. -/
import Derived.Handy
import Derived.Test.YtfphpilabfpmjaaForcT
import Derived.Maps.AppendAt
import Derived.StillTailTactics
import Derived.Deep.DeepCutAuto
import Derived.Deep.RegionHeld3
import Derived.Deep.QuietTactic
namespace Go.Proofs.Ytfphpilabfpmjaa.forc
open Go.RowKit P2 words edges ints good adjs fns sets rets covs bags balls bitsI ups func costs
set_option linter.unusedVariables false

theorem mem_bits {n d : Nat} {x : Nat} (hx : x < n) : decide ((x : Int) ∈ nw (bitB d) n) = d.testBit x := by
  rw [Bool.eq_iff_iff, decide_eq_true_iff, mem_nw]
  constructor
  · rintro ⟨j, hj, hp, e⟩
    have : x = j := by omega
    subst this; exact hp
  · intro h; exact ⟨x, hx, h, rfl⟩
set_option maxHeartbeats 2000000 in
set_option maxRecDepth 100000 in
theorem l5Rest_any (n d : Nat) (v u : Value) (w : World) (hu : Ints w u (nw (bitB d) n)) (hn : n ≤ 8) :
    Calls Try.prog 75 #[.agg #[.int .i64 (n : Int), v], u] w (RowI w (nw (fun z => !d.testBit z) n)) := by
  obtain ⟨i0, hi, hz0, hz1, hz2⟩ := info_parts infoInt
  have HU := Lib.hid hu
  have B0 : Below w.heap.size w ((w.alloc (.cells #[.int .i64 (n : Int), v] 29)).alloc (.cells #[] 3)) := ((Below.refl _ _).alloc (Nat.le_refl _) _).alloc (by simp) _
  have G0 := (Blk.new w 29 #[.int .i64 (n : Int), v]).alloc (.cells #[] 3)
  have O0 := own_new0 (w.alloc (.cells #[.int .i64 (n : Int), v] 29)) 3 1
  rw [World.size_alloc] at O0
  have HB0 := Lib.hid B0
  have HG0 := Lib.hid G0
  have HO0 := Lib.hid O0
  have HLL : Hid ((nw (bitB d) n).length ≤ 1048576) := by show _ ≤ _; have := nw_len (bitB d) n; omega
  clear hu B0 G0 O0
  go_enter Try.func75, Try.ntmps75
  go_wp2_with fail
  go_loopw [5, 6] (fun s i wr => ∃ k : Nat, k ≤ n ∧ i = .int .i64 (k : Int) ∧ wr.ownsRow (w.heap.size + 1) 3 1 s (nw (fun z => !d.testBit z) k).length (cellsI (nw (fun z => !d.testBit z) k)) ∧ Blk wr w.heap.size 29 #[.int .i64 (n : Int), v] ∧ Below w.heap.size w wr)
    (fun _ i _ => n - (intOf i).toNat)
  case atStart => exact ⟨0, Nat.zero_le _, rfl, HO0.out, HG0.out, HB0.out⟩
  case round =>
    obtain ⟨k, hk, rfl, hrow, hbk, hB⟩ := hrel
    have hlen := nw_len (fun z => !d.testBit z) k
    obtain ⟨p0, p1, -, -⟩ := hbk.two
    have hsz := hbk.lt
    by_cases hlt : k < n
    · have hlt' : (k : Int) < (n : Int) := by omega
      have HP := Lib.hid (l1Has_any u (nw (bitB d) n) (k : Int) wr (HU.out.below hB) HLL.out)
      rw [mem_bits hlt] at HP
      cases hp : d.testBit k with
      | false =>
        have HN := Lib.hid (nw_yes (p := fun z => !d.testBit z) (show (!d.testBit k) = true by rw [hp]; rfl))
        rw [hp] at HP
        clear hp
        generalize nw (fun z => !d.testBit z) k = m at *
        go_wp2_with fail
        refine HP.out.mono ?_
        rintro e w' ⟨rfl, rfl⟩
        have HB1 := Lib.hid hB
        have hbk1 := Lib.hid hbk
        go_wp2_with (at_builtin; refine wpList_append_own _ rfl _ _ 25 rfl (w.heap.size + 1) 3 i0 (.int .i64 0) 1 8 Try.underlying25 hi hz0 hz1 hz2 rfl (by decide) _ _ _ rfl (hrow.alloc _) ⟨wr.heap.size, 0, none⟩ 1 1 [.int .i64 (k : Int)] rfl rfl (cell_one_new _ _ _) (fun x hx => by simp at hx; subst hx; rfl) (by unfold maxLen; omega) (by omega) (by simp; omega) ?_; intro v2 w2 hown2 hgrow2 _)
        obtain ⟨hown3, hB2⟩ := push1 hrow hown2 hgrow2 (by omega)
        have hbk2 := Lib.hid (hbk1.out.below hB2 (by omega))
        clear hgrow2 hrow hown2
        go_roundw
        case rel => exact ⟨k + 1, by omega, by go_num, by rw [HN.out]; exact hown3, hbk2.out, HB1.out.trans (hB2.mono (by omega))⟩
        case measure => simp [intOf]; omega
      | true =>
        have HN := Lib.hid (nw_no (p := fun z => !d.testBit z) (show (!d.testBit k) = false by rw [hp]; rfl))
        rw [hp] at HP
        clear hp
        go_wp2_with fail
        refine HP.out.mono ?_
        rintro e w' ⟨rfl, rfl⟩
        go_wp2_with fail
        go_roundw
        case rel => exact ⟨k + 1, by omega, by go_num, by rw [HN.out]; exact hrow, hbk, hB⟩
        case measure => simp [intOf]; omega
    · obtain rfl : k = n := by omega
      obtain ⟨A2, c2, rfl⟩ := own_form hrow
      go_wp2_with fail
      go_ret
      exact ⟨A2, c2, rfl, own_base hrow (by omega), hB⟩
theorem nw_rest {n d : Nat} (hn : n ≤ 8) : nw (fun z => !d.testBit z) n = ndN (numOf (fun z => !d.testBit z) n) := by
  unfold ndN; rw [nodes_num hn]
set_option maxHeartbeats 4000000 in
set_option maxRecDepth 100000 in
theorem specFortOutside_any (s : Int) (v u : Value) (l : List Ed) (xs : List Int) (w : World) (h : Edges w v l) (hl : l.length ≤ 1048576) (hu : Ints w u xs) (hxl : xs.length ≤ 1048576) (hs1 : -9223372036854775808 ≤ s) (hs2 : s ≤ 9223372036854775807) :
    Calls Try.prog 35 #[.agg #[.int .i64 s, v], u] w (RetI w (OutP s l xs) (outF s l xs)) := by
  obtain ⟨A, c, rfl, -⟩ := h.form
  have H := Lib.hid h
  have HU := Lib.hid hu
  have b0 : Below w.heap.size w (w.alloc (.cells #[.int .i64 s, .slice A l.length c] 29)) := (Below.refl _ _).alloc (Nat.le_refl _) _
  have HG0 := Lib.hid (Blk.new w 29 #[.int .i64 s, .slice A l.length c])
  obtain ⟨p0, p1, -, -⟩ := HG0.out.two
  have HBT := Lib.hid (l9Both_any s (.slice A l.length c) u l xs _ (h.below b0) hl (hu.below b0) hxl hs1 hs2)
  have HB0 := Lib.hid b0
  clear h hu b0
  by_cases hso : SetOk s l xs
  · rw [okG_yes hso] at HBT
    have h0 := hso.1.1
    have h8 := hso.1.2.1
    obtain ⟨n, rfl⟩ : ∃ n : Nat, s = (n : Int) := ⟨s.toNat, by omega⟩
    have hn : n ≤ 8 := by omega
    have HXS := Lib.hid (setOk_code hso)
    have HC := Lib.hid (code_set hso)
    have HUU : Hid (∀ W, Below w.heap.size w W → Ints W u (nw (bitB (codeL xs)) n)) := fun W hW => by have h_ := HU.out.below hW; rw [HXS.out] at h_; exact h_
    have HF := Lib.hid (fun (W : World) (hW : Below w.heap.size w W) => l9Forces_any n (codeL xs) (.slice A l.length c) u l W (H.out.below hW) hl (HUU.out W hW) hn HC.out)
    have HAL := Lib.hid (fun (W : World) (hW : Below w.heap.size w W) => l9All_any n (codeL xs) false (.slice A l.length c) u l W (H.out.below hW) hl (HUU.out W hW) hn HC.out)
    by_cases hfu : rchN n l 0 (codeL xs) = 2 ^ n - 1
    · have HNO : Hid (¬ OutP (n : Int) l xs) := fun h => h.2 (by rw [Int.toNat_natCast]; exact hfu)
      rw [beq_iff_eq.2 hfu] at HF
      clear hso hfu
      go_enter Try.func35, Try.ntmps35
      go_wp2_with fail
      refine HBT.out.mono ?_
      rintro e w1 ⟨rfl, b1⟩
      have HE1 := Lib.hid (btrans HB0.out b1)
      have HG1 := Lib.hid (HG0.out.below b1 HG0.out.lt)
      have HF1 := Lib.hid (HF.out w1 HE1.out)
      clear p0 p1 b1 HBT HB0 HG0 HF
      obtain ⟨p0, p1, -, -⟩ := HG1.out.two
      go_wp2_with fail
      refine HF1.out.mono ?_
      rintro e w2 ⟨rfl, b2⟩
      have HE2 := Lib.hid (btrans HE1.out b2)
      clear p0 p1 b2
      go_wp2_with fail
      go_ret2
      exact RetI.no HNO.out (own_base (own_new0 w2 3 1) HE2.out.size) (HE2.out.alloc HE2.out.size _)
    · have HOK : Hid (OutP (n : Int) l xs) := ⟨hso, by rw [Int.toNat_natCast]; exact hfu⟩
      rw [beq_eq_false_iff_ne.2 hfu] at HF
      have HOUT : Hid (outF (n : Int) l xs = nw (fun z => !(lastN n l false (codeL xs)).testBit z) n) := by show _ = _; rw [nw_rest hn]; unfold outF; rw [Int.toNat_natCast] <;> rfl
      clear hso hfu
      rw [HOUT.out]
      clear HOUT
      generalize lastN n l false (codeL xs) = y at *
      go_enter Try.func35, Try.ntmps35
      go_wp2_with fail
      refine HBT.out.mono ?_
      rintro e w1 ⟨rfl, b1⟩
      have HE1 := Lib.hid (btrans HB0.out b1)
      have HG1 := Lib.hid (HG0.out.below b1 HG0.out.lt)
      have HF1 := Lib.hid (HF.out w1 HE1.out)
      clear p0 p1 b1 HBT HB0 HG0 HF
      obtain ⟨p0, p1, -, -⟩ := HG1.out.two
      go_wp2_with fail
      refine HF1.out.mono ?_
      rintro e w2 ⟨rfl, b2⟩
      have HE2 := Lib.hid (btrans HE1.out b2)
      have HG2 := Lib.hid (HG1.out.below b2 HG1.out.lt)
      have HA2 := Lib.hid (HAL.out w2.drew HE2.out.drew)
      clear p0 p1 b2 HG1 HF1
      obtain ⟨p0, p1, -, -⟩ := HG2.out.two
      go_wp2_with fail
      refine wp_region_held_drew (S := (fun w' : World => w'.cell? ⟨w.heap.size, 0, none⟩ = some (.int .i64 (n : Int)) ∧ w'.cell? ⟨w.heap.size, 1, none⟩ = some (.slice A l.length c))) (by kernel_rfl) (by (try dsimp only); simp [*]) (fun hHeld => ?_)
      change wpAnyH _ _ _ _ _ _ #[false, false, false, false, false, false, false] _ _
      refine wpAnyH_take (i := 0) (oi := ⟨some 16, _, _, _, _, _⟩) (v := ?_) rfl (by kernel_rfl) (by kernel_rfl) (by kernel_rfl) (fun _ _ _ h => h) (Or.inl ⟨by rfl, ?_⟩) (by assumption) ?_
      rotate_left
      · (intro w hSw; (try dsimp only at hSw); go_simp; (try (with_reducible rfl)))
      try simp only [Act.put, List.setIfInBounds_toArray, List.set_cons_zero, List.set_cons_succ]
      refine wpAnyH_take (i := 1) (oi := ⟨some 17, _, _, _, _, _⟩) (v := ?_) rfl (by kernel_rfl) (by kernel_rfl) (by kernel_rfl) (fun _ _ _ h => h) (Or.inl ⟨by rfl, ?_⟩) (by assumption) ?_
      rotate_left
      · (intro w hSw; (try dsimp only at hSw); go_simp; (try (with_reducible rfl)))
      try simp only [Act.put, List.setIfInBounds_toArray, List.set_cons_zero, List.set_cons_succ]
      refine wpAnyH_take (i := 2) (oi := ⟨some 18, _, _, _, _, _⟩) (v := ?_) rfl (by kernel_rfl) (by kernel_rfl) (by kernel_rfl) (fun _ _ _ h => h) (Or.inl ⟨by rfl, ?_⟩) (by assumption) ?_
      rotate_left
      · (intro w hSw; (try dsimp only at hSw); go_simp; (try (with_reducible rfl)))
      try simp only [Act.put, List.setIfInBounds_toArray, List.set_cons_zero, List.set_cons_succ]
      refine wpAnyH_ready (rs := [3]) (by kernel_rfl) (by simp) ?_
      refine AllReadyH.cons (o := ⟨some 19, _, _, _, _, _⟩) rfl (fun K hK => ?_) AllReadyH.nil
      go_simp
      (with_reducible refine HA2.out.mono ?_); rintro e w3 ⟨A3, c3, rfl, o3, b3⟩; have d3 : Below w2.heap.size w2 w3 := btrans (Below.refl _ _).drew b3; obtain ⟨k0, k1, -, -⟩ := (HG2.out.below d3 HG2.out.lt).two
      go_wp2_with fail
      refine hK.out _ _ (by (try dsimp only); simp [*]) (fun hHeld => ?_)
      clear hK K
      try simp only [List.setIfInBounds_toArray, List.set_cons_zero, List.set_cons_succ]
      refine wpAnyH_ready (rs := [4]) (by kernel_rfl) (by simp) ?_
      refine AllReadyH.cons (o := ⟨some 20, _, _, _, _, _⟩) rfl (fun K hK => ?_) AllReadyH.nil
      go_simp
      (with_reducible refine (l5Rest_any n y (.slice A l.length c) (.slice A3 (nw (bitB y) n).length c3) w3 (show Ints _ _ _ from Reads.of_own o3) hn).mono ?_); rintro e w4 ⟨A4, c4, rfl, o4, b4⟩; have d4 : Below w2.heap.size w2 w4 := btrans d3 b4; obtain ⟨j0, j1, -, -⟩ := (HG2.out.below d4 HG2.out.lt).two
      go_wp2_with fail
      refine hK.out _ _ (by (try dsimp only); simp [*]) (fun hHeld => ?_)
      clear hK K
      try simp only [List.setIfInBounds_toArray, List.set_cons_zero, List.set_cons_succ]
      refine wpAnyH_take (i := 5) (oi := ⟨some 4, _, _, _, _, _⟩) (v := ?_) rfl (by kernel_rfl) (by kernel_rfl) (by kernel_rfl) (fun _ _ _ h => h) (Or.inl ⟨by rfl, ?_⟩) (by assumption) ?_
      rotate_left
      · (intro w hSw; (try dsimp only at hSw); go_simp; (try (with_reducible rfl)))
      try simp only [Act.put, List.setIfInBounds_toArray, List.set_cons_zero, List.set_cons_succ]
      refine wpAnyH_take (i := 6) (oi := ⟨some 5, _, _, _, _, _⟩) (v := ?_) rfl (by kernel_rfl) (by kernel_rfl) (by kernel_rfl) (fun _ _ _ h => h) (Or.inl ⟨by rfl, ?_⟩) (by assumption) ?_
      rotate_left
      · (intro w hSw; (try dsimp only at hSw); go_simp; (try (with_reducible rfl)))
      try simp only [Act.put, List.setIfInBounds_toArray, List.set_cons_zero, List.set_cons_succ]
      refine wpAnyH_done (by kernel_rfl) ?_ _
      go_wp2_with fail
      go_ret2
      exact RetI.yes HOK.out (own_base o4 (by have := HE2.out.size; have := d3.size; omega)) (btrans HE2.out d4)
  · rw [okG_no hso] at HBT
    have HNO : Hid (¬ OutP s l xs) := fun h => hso h.1
    clear hso
    go_enter Try.func35, Try.ntmps35
    go_wp2_with fail
    refine HBT.out.mono ?_
    rintro e w1 ⟨rfl, b1⟩
    have HE1 := Lib.hid (btrans HB0.out b1)
    clear p0 p1 b1
    go_wp2_with fail
    go_ret2
    exact RetI.no HNO.out (own_base (own_new0 w1 3 1) HE1.out.size) (HE1.out.alloc HE1.out.size _)
theorem out_len9 (s : Int) (l : List Ed) (xs : List Int) : (inG (OutP s l xs) (outF s l xs)).length ≤ 1048576 := nd_lenP _
/-- what has been coloured ahead of the rounds: the balls of the first i nodes -/
def PowS (n : Nat) (l : List Ed) (xs : List Int) (i d : Nat) : Prop := d < 2 ^ n ∧ ∀ y, y < n → (d.testBit y = true ↔ ∃ x : Nat, (x : Int) ∈ xs.take i ∧ ballB l x y = true)
def PowT (n : Nat) (l : List Ed) (xs : List Int) (i : Nat) (M : List Int) (j d : Nat) : Prop := d < 2 ^ n ∧ ∀ y, y < n → (d.testBit y = true ↔ (∃ x : Nat, (x : Int) ∈ xs.take i ∧ ballB l x y = true) ∨ (y : Int) ∈ M.take j)
theorem PowS.start (n : Nat) (l : List Ed) (xs : List Int) : PowS n l xs 0 0 := ⟨Nat.pow_pos (by decide), fun y _ => by simp⟩
theorem PowS.into {n : Nat} {l : List Ed} {xs : List Int} {i d : Nat} (h : PowS n l xs i d) (M : List Int) : PowT n l xs i M 0 d := ⟨h.1, fun y hy => by rw [h.2 y hy]; simp⟩
theorem PowT.put {n : Nat} {l : List Ed} {xs M : List Int} {i j d z : Nat} (h : PowT n l xs i M j d) (hz : M[j]? = some (z : Int)) (hzn : z < n) : PowT n l xs i M (j + 1) (d ||| 2 ^ z) := by
  refine ⟨Nat.or_lt_two_pow h.1 (Nat.pow_lt_pow_right (by decide) hzn), fun y hy => ?_⟩
  rw [put_bit, Bool.or_eq_true, h.2 y hy, decide_eq_true_iff, List.take_add_one, hz]
  simp only [Option.toList, List.mem_append, List.mem_singleton]
  constructor
  · rintro ((h | h) | rfl)
    · exact .inl h
    · exact .inr (.inl h)
    · exact .inr (.inr rfl)
  · rintro (h | h | h)
    · exact .inl (.inl h)
    · exact .inl (.inr h)
    · exact .inr (by omega)
theorem PowT.out {n : Nat} {l : List Ed} {xs : List Int} {i d x : Nat} (h : PowT n l xs i (nw (ballB l x) n) (nw (ballB l x) n).length d) (hx : xs[i]? = some (x : Int)) : PowS n l xs (i + 1) d := by
  refine ⟨h.1, fun y hy => ?_⟩
  rw [h.2 y hy, List.take_length, mem_nw, List.take_add_one, hx]
  simp only [Option.toList, List.mem_append, List.mem_singleton]
  constructor
  · rintro (⟨z, h1, h2⟩ | ⟨j, h1, h2, h3⟩)
    · exact ⟨z, .inl h1, h2⟩
    · have : y = j := by omega
      subst this
      exact ⟨x, .inr rfl, h2⟩
  · rintro ⟨z, h1 | h1, h2⟩
    · exact .inl ⟨z, h1, h2⟩
    · have : z = x := by omega
      subst this
      exact .inr ⟨y, hy, h2, rfl⟩
theorem PowS.all {n c d : Nat} {l : List Ed} (h : PowS n l (nw (bitB c) n) (nw (bitB c) n).length d) : d = arN l n c := by
  apply Nat.eq_of_testBit_eq
  intro y
  by_cases hy : y < n
  · rw [Bool.eq_iff_iff, h.2 y hy, List.take_length]
    unfold arN
    rw [numOf_bit, decide_eq_true hy, Bool.true_and, arB_iff]
    unfold ballB
    constructor
    · rintro ⟨x, h1, h2⟩
      obtain ⟨j, hj, hb, e⟩ := mem_nw.1 h1
      have : x = j := by omega
      subst this
      refine ⟨x, hj, hb, ?_⟩
      rw [Bool.or_eq_true, beq_iff_eq] at h2
      exact h2
    · rintro ⟨x, h1, h2, h3⟩
      refine ⟨x, mem_nw.2 ⟨x, h1, h2, rfl⟩, ?_⟩
      rw [Bool.or_eq_true, beq_iff_eq]
      exact h3
  · have h2 : ∀ z, z < 2 ^ n → z.testBit y = false := fun z hz => Nat.testBit_lt_two_pow (Nat.lt_of_lt_of_le hz (Nat.pow_le_pow_right (by decide) (by omega)))
    rw [h2 _ h.1, h2 _ (ar_lt c)]
theorem nw_bit0 (n : Nat) : nw (bitB 0) n = [] := by
  unfold nw bitB
  rw [List.map_eq_nil_iff, List.filter_eq_nil_iff]
  intro y _
  simp
set_option maxHeartbeats 4000000 in
set_option maxRecDepth 100000 in
theorem l9Power_any (n c : Nat) (v u : Value) (l : List Ed) (w : World) (h : Edges w v l) (hl : l.length ≤ 1048576) (hu : Ints w u (nw (bitB c) n)) (hn : n ≤ 8) :
    Calls Try.prog 82 #[.agg #[.int .i64 (n : Int), v], u] w (RowI w (nw (bitB (rchN n l 1 c)) n)) := by
  obtain ⟨A, cc, rfl, -⟩ := h.form
  have H := Lib.hid h
  have HXM : Hid (∀ x ∈ nw (bitB c) n, 0 ≤ x ∧ x < (n : Int)) := fun x hx => by obtain ⟨j, hj, _, rfl⟩ := mem_nw.1 hx; omega
  have HALL : Hid (∀ d, PowS n l (nw (bitB c) n) (nw (bitB c) n).length d → d = arN l n c) := fun d hd => hd.all
  have hxl := nw_len (bitB c) n
  have HRC : Hid (rchN n l 1 c = lastN n l false (arN l n c)) := rfl
  rw [HRC.out]
  clear HRC
  generalize nw (bitB c) n = xs at *
  obtain ⟨A2, c2, rfl, hc2⟩ := hu.form
  have HC2 := Lib.hid hc2
  have B0 : Below w.heap.size w ((w.alloc (.cells #[.int .i64 (n : Int), .slice A l.length cc] 29)).alloc (.cells #[] 3)) := ((Below.refl _ _).alloc (Nat.le_refl _) _).alloc (by simp) _
  have HB0 := Lib.hid B0
  have HG0 := Lib.hid ((Blk.new w 29 #[.int .i64 (n : Int), .slice A l.length cc]).alloc (.cells #[] 3))
  have O0 := own_new0 (w.alloc (.cells #[.int .i64 (n : Int), .slice A l.length cc] 29)) 3 1
  rw [World.size_alloc] at O0
  have HO0 : Hid (((w.alloc (.cells #[.int .i64 (n : Int), .slice A l.length cc] 29)).alloc (.cells #[] 3)).ownsRow w.heap.size 3 1 (.slice (some ⟨w.heap.size + 1, 0, none⟩) 0 0) (nw (bitB 0) n).length (cellsI (nw (bitB 0) n))) := by
    show World.ownsRow _ _ _ _ _ _ _
    rw [nw_bit0]
    exact own_base O0 (by omega)
  have HS0 := Lib.hid (PowS.start n l xs)
  clear h hu hc2 B0 O0
  go_enter Try.func82, Try.ntmps82
  go_wp2_with fail
  go_loopg [5, 6] xs.length (fun g ov iv wr => ∃ (i d : Nat) (ow : Value), ow = ov ∧ i + g = xs.length ∧ iv = .int .i64 (i : Int) ∧ Hid (PowS n l xs i d) ∧ wr.ownsRow w.heap.size 3 1 ow (nw (bitB d) n).length (cellsI (nw (bitB d) n)) ∧ Blk wr w.heap.size 29 #[.int .i64 (n : Int), .slice A l.length cc] ∧ Below w.heap.size w wr)
  case atStart => exact ⟨0, 0, _, rfl, by omega, rfl, HS0, HO0.out, HG0.out, HB0.out⟩
  case round =>
    clear HS0 HO0 HG0 HB0
    obtain ⟨i, d, ow, rfl, hig, rfl, hps, hrow, hgb, hB⟩ := hrel
    obtain ⟨A4, c4, rfl⟩ := own_form hrow
    obtain ⟨p0, p1, -, -⟩ := hgb.two
    have HR := Lib.hid hrow
    have HG := Lib.hid hgb
    have HB := Lib.hid hB
    cases gk with
    | zero =>
      obtain rfl : i = xs.length := by omega
      have HD := Lib.hid (HALL.out d hps.out)
      have HLA := Lib.hid (l9All_any n d false (.slice A l.length cc) (.slice A4 (nw (bitB d) n).length c4) l wr (H.out.below hB) hl (show Ints _ _ _ from Reads.of_own hrow) hn hps.out.1)
      clear hrow hgb hB
      go_wp2_with fail
      refine HLA.out.mono ?_
      rintro e w3 ⟨A3, c3, rfl, o3, b3⟩
      go_wp2_with fail
      go_ret
      rw [← HD.out]
      exact ⟨A3, c3, rfl, own_base o3 HB.out.size, btrans HB.out b3⟩
    | succ g2 =>
      have hlt : i < xs.length := by omega
      have hlt' : (i : Int) < (xs.length : Int) := by omega
      obtain ⟨x, hx⟩ : ∃ x, xs[i]? = some x := ⟨_, List.getElem?_eq_getElem hlt⟩
      have hxm := HXM.out x (List.mem_of_getElem? hx)
      obtain ⟨xn, rfl⟩ : ∃ xn : Nat, x = (xn : Int) := ⟨x.toNat, by omega⟩
      obtain ⟨ga, oa, rfl, c0⟩ := HC2.out i _ hx
      have q0 := nearv.cell_keep c0 hB
      have HBL := Lib.hid (l2Ball_any n (xn : Int) (.slice A l.length cc) l wr.drew (H.out.below hB.drew) hl hn hxm)
      rw [Int.toNat_natCast] at HBL
      have HPO := Lib.hid (fun d2 (hd : PowT n l xs i (nw (ballB l xn) n) (nw (ballB l xn) n).length d2) => hd.out hx)
      have HPI := Lib.hid (hps.out.into (nw (ballB l xn) n))
      have hbl := nw_len (ballB l xn) n
      have HBM : Hid (∀ y ∈ nw (ballB l xn) n, 0 ≤ y ∧ y < (n : Int)) := fun y hy => by obtain ⟨j, hj, _, rfl⟩ := mem_nw.1 hy; omega
      clear hx c0 hrow hgb hB hps
      generalize nw (ballB l xn) n = bl at *
      go_wp2_with fail
      go_still_tail 5, (by kernel_rfl)
      change wpList _ _ _ _ _ wr.drew
      go_wp2_with fail
      refine HBL.out.mono ?_
      rintro e w3 ⟨A5, c5, rfl, r5, b5⟩
      have d5 : Below wr.heap.size wr w3 := (Below.refl _ _).drew.trans b5
      have HR5 : Hid (Ints w3 (.slice A5 bl.length c5) bl) := r5
      have HR3 := Lib.hid (own_below HR.out d5)
      have HG3 := Lib.hid (HG.out.below d5 HG.out.lt)
      have HB3 := Lib.hid (btrans HB.out d5)
      clear r5 b5 d5 HR HG HB HBL q0 p0 p1
      go_wp2_with fail
      obtain ⟨wo, hwo⟩ : ∃ wo, wo = wr := ⟨_, rfl⟩
      clear hwo
      go_loopg [5, 8] bl.length (fun g ov jv wr => ∃ (j d : Nat) (ow : Value), ow = ov ∧ j + g = bl.length ∧ jv = .int .i64 (j : Int) ∧ Hid (PowT n l xs i bl j d) ∧ wr.ownsRow w.heap.size 3 1 ow (nw (bitB d) n).length (cellsI (nw (bitB d) n)) ∧ Ints wr (.slice A5 bl.length c5) bl ∧ Blk wr w.heap.size 29 #[.int .i64 (n : Int), .slice A l.length cc] ∧ Below w.heap.size w wr)
      case atStart => exact ⟨0, d, _, rfl, by omega, rfl, HPI, HR3.out, HR5.out, HG3.out, HB3.out⟩
      case round =>
        clear HPI HR3 HR5 HG3 HB3
        obtain ⟨j, d, ow, rfl, hjg, rfl, hpt, hrow, hri, hgb, hB⟩ := hrel
        obtain ⟨A6, c6, rfl⟩ := own_form hrow
        have HR := Lib.hid hrow
        have HG := Lib.hid hgb
        have HB := Lib.hid hB
        have HRI := Lib.hid hri
        cases gk with
        | zero =>
          obtain rfl : j = bl.length := by omega
          have HN := Lib.hid (HPO.out d hpt.out)
          clear hrow hgb hB hri
          go_wp2_with fail
          go_roundg g2
          case measure => omega
          case rel => exact ⟨i + 1, d, _, rfl, by omega, by go_num, HN, HR.out, HG.out, HB.out⟩
        | succ g3 =>
          have hlt2 : j < bl.length := by omega
          have hlt2' : (j : Int) < (bl.length : Int) := by omega
          obtain ⟨y, hy⟩ : ∃ y, bl[j]? = some y := ⟨_, List.getElem?_eq_getElem hlt2⟩
          have hym := HBM.out y (List.mem_of_getElem? hy)
          obtain ⟨yn, rfl⟩ : ∃ yn : Nat, y = (yn : Int) := ⟨y.toNat, by omega⟩
          obtain ⟨_, _, hf5, hcc⟩ := hri.form
          cases hf5
          obtain ⟨g9, o9, rfl, q9⟩ := hcc j _ hy
          have HPN := Lib.hid (hpt.out.put hy (by omega))
          have HPB := Lib.hid (fun L (h : PutI (nw (bitB d) n) (yn : Int) L) => put_two h (show yn < n by omega))
          have hml := nw_len (bitB d) n
          have HPT := Lib.hid (l1Put_own _ (nw (bitB d) n) (yn : Int) wr w.heap.size hrow hB.size (by omega) (nw_asc (bitB d) n))
          clear hy hcc hrow hgb hB hri hpt
          generalize nw (bitB d) n = M at *
          go_wp2_with fail
          refine HPT.out.mono ?_
          rintro e w5 ⟨L, A7, c7, rfl, hpi, o7, b7⟩
          have HLB := Lib.hid (HPB.out L hpi)
          have HB5 := Lib.hid (btrans HB.out b7)
          have HG5 := Lib.hid (HG.out.below b7 HG.out.lt)
          have HI5 : Hid (Ints w5 (.slice (some ⟨g9, o9, none⟩) bl.length c5) bl) := HRI.out.below b7
          have HO7 := Lib.hid o7
          clear hpi o7 b7
          go_wp2_with fail
          go_roundg g3
          case measure => omega
          case rel => exact ⟨j + 1, d ||| 2 ^ yn, _, rfl, by omega, by go_num, HPN, by rw [← HLB.out]; exact HO7.out, HI5.out, HG5.out, HB5.out⟩
end Go.Proofs.Ytfphpilabfpmjaa.forc
