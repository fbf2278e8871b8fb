/- Forcing: the contracts of the model's ForceOnce, ForceAll, SkewAll, l9Forces, IsForcing, l5Rest, FortOutside. -/
import Derived.Handy
import Derived.Test.YtfphpilabfpmjaaForcL
import Derived.Test.YtfphpilabfpmjaaForcS
import Derived.Deep.DeepCutAuto
import Derived.Deep.RegionHeld3
import Derived.Deep.QuietTactic
namespace Go.Proofs.Ytfphpilabfpmjaa.forc
open Go.RowKit P2 words edges ints good adjs fns sets rets covs bags balls bitsI ups func costs
set_option linter.unusedVariables false

set_option maxHeartbeats 2000000 in
set_option maxRecDepth 100000 in
theorem specForceOnce_any (s : Int) (v u : Value) (l : List Ed) (xs : List Int) (w : World) (h : Edges w v l) (hl : l.length ≤ 1048576) (hu : Ints w u xs) (hxl : xs.length ≤ 1048576) (hs1 : -9223372036854775808 ≤ s) (hs2 : s ≤ 9223372036854775807) :
    Calls Try.prog 16 #[.agg #[.int .i64 s, v], u] w (RetI w (SetOk s l xs) (oncL s l xs)) := by
  obtain ⟨A, c, rfl, -⟩ := h.form
  have H := Lib.hid h
  have HU := Lib.hid hu
  have b0 : Below w.heap.size w (w.alloc (.cells #[.int .i64 s, .slice A l.length c] 29)) := (Below.refl _ _).alloc (Nat.le_refl _) _
  have HG0 := Lib.hid (Blk.new w 29 #[.int .i64 s, .slice A l.length c])
  obtain ⟨p0, p1, -, -⟩ := HG0.out.two
  have HBT := Lib.hid (l9Both_any s (.slice A l.length c) u l xs _ (h.below b0) hl (hu.below b0) hxl hs1 hs2)
  have HB0 := Lib.hid b0
  clear h hu b0
  by_cases hso : SetOk s l xs
  · rw [okG_yes hso] at HBT
    have h0 := hso.1.1
    have h8 := hso.1.2.1
    obtain ⟨n, rfl⟩ : ∃ n : Nat, s = (n : Int) := ⟨s.toNat, by omega⟩
    have hn : n ≤ 8 := by omega
    have HOK := Lib.hid hso
    have HXS := Lib.hid (setOk_code hso)
    have HC := Lib.hid (code_set hso)
    have HON := Lib.hid (fun (W : World) (hW : Below w.heap.size w W) => l9Once_any n (codeL xs) false (.slice A l.length c) u l W (H.out.below hW) hl (by have h_ := HU.out.below hW; rw [HXS.out] at h_; exact h_) hn)
    rw [nd_bits hn (on_lt HC.out)] at HON
    have HV : Hid (oncL (n : Int) l xs = ndN (onN n l false (codeL xs))) := by show _ = _; unfold oncL; rw [Int.toNat_natCast] <;> rfl
    clear hso
    go_enter Try.func16, Try.ntmps16
    go_wp2_with fail
    refine HBT.out.mono ?_
    rintro e w1 ⟨rfl, b1⟩
    have HE1 := Lib.hid (btrans HB0.out b1)
    have HG1 := Lib.hid (HG0.out.below b1 HG0.out.lt)
    have HO1 := Lib.hid (HON.out w1 HE1.out)
    clear p0 p1 b1 HBT HB0 HG0 HON
    obtain ⟨p0, p1, -, -⟩ := HG1.out.two
    go_wp2_with fail
    refine HO1.out.mono ?_
    rintro e w2 ⟨A2, c2, rfl, o2, b2⟩
    go_wp2_with fail
    go_ret2
    rw [HV.out]
    exact RetI.yes HOK.out (own_base o2 HE1.out.size) (btrans HE1.out b2)
  · rw [okG_no hso] at HBT
    have HNO := Lib.hid hso
    clear hso
    go_enter Try.func16, Try.ntmps16
    go_wp2_with fail
    refine HBT.out.mono ?_
    rintro e w1 ⟨rfl, b1⟩
    have HE1 := Lib.hid (btrans HB0.out b1)
    clear p0 p1 b1
    go_wp2_with fail
    go_ret2
    exact RetI.no HNO.out (own_base (own_new0 w1 3 1) HE1.out.size) (HE1.out.alloc HE1.out.size _)
set_option maxHeartbeats 2000000 in
set_option maxRecDepth 100000 in
theorem specForceAll_any (s : Int) (v u : Value) (l : List Ed) (xs : List Int) (w : World) (h : Edges w v l) (hl : l.length ≤ 1048576) (hu : Ints w u xs) (hxl : xs.length ≤ 1048576) (hs1 : -9223372036854775808 ≤ s) (hs2 : s ≤ 9223372036854775807) :
    Calls Try.prog 25 #[.agg #[.int .i64 s, v], u] w (RetI w (SetOk s l xs) (clsL s l 0 xs)) := by
  obtain ⟨A, c, rfl, -⟩ := h.form
  have H := Lib.hid h
  have HU := Lib.hid hu
  have b0 : Below w.heap.size w (w.alloc (.cells #[.int .i64 s, .slice A l.length c] 29)) := (Below.refl _ _).alloc (Nat.le_refl _) _
  have HG0 := Lib.hid (Blk.new w 29 #[.int .i64 s, .slice A l.length c])
  obtain ⟨p0, p1, -, -⟩ := HG0.out.two
  have HBT := Lib.hid (l9Both_any s (.slice A l.length c) u l xs _ (h.below b0) hl (hu.below b0) hxl hs1 hs2)
  have HB0 := Lib.hid b0
  clear h hu b0
  by_cases hso : SetOk s l xs
  · rw [okG_yes hso] at HBT
    have h0 := hso.1.1
    have h8 := hso.1.2.1
    obtain ⟨n, rfl⟩ : ∃ n : Nat, s = (n : Int) := ⟨s.toNat, by omega⟩
    have hn : n ≤ 8 := by omega
    have HOK := Lib.hid hso
    have HXS := Lib.hid (setOk_code hso)
    have HC := Lib.hid (code_set hso)
    have HON := Lib.hid (fun (W : World) (hW : Below w.heap.size w W) => l9All_any n (codeL xs) false (.slice A l.length c) u l W (H.out.below hW) hl (by have h_ := HU.out.below hW; rw [HXS.out] at h_; exact h_) hn HC.out)
    rw [nd_bits hn (last_ltN HC.out)] at HON
    have HV : Hid (clsL (n : Int) l 0 xs = ndN (lastN n l false (codeL xs))) := by show _ = _; unfold clsL; rw [Int.toNat_natCast] <;> rfl
    clear hso
    go_enter Try.func25, Try.ntmps25
    go_wp2_with fail
    refine HBT.out.mono ?_
    rintro e w1 ⟨rfl, b1⟩
    have HE1 := Lib.hid (btrans HB0.out b1)
    have HG1 := Lib.hid (HG0.out.below b1 HG0.out.lt)
    have HO1 := Lib.hid (HON.out w1 HE1.out)
    clear p0 p1 b1 HBT HB0 HG0 HON
    obtain ⟨p0, p1, -, -⟩ := HG1.out.two
    go_wp2_with fail
    refine HO1.out.mono ?_
    rintro e w2 ⟨A2, c2, rfl, o2, b2⟩
    go_wp2_with fail
    go_ret2
    rw [HV.out]
    exact RetI.yes HOK.out (own_base o2 HE1.out.size) (btrans HE1.out b2)
  · rw [okG_no hso] at HBT
    have HNO := Lib.hid hso
    clear hso
    go_enter Try.func25, Try.ntmps25
    go_wp2_with fail
    refine HBT.out.mono ?_
    rintro e w1 ⟨rfl, b1⟩
    have HE1 := Lib.hid (btrans HB0.out b1)
    clear p0 p1 b1
    go_wp2_with fail
    go_ret2
    exact RetI.no HNO.out (own_base (own_new0 w1 3 1) HE1.out.size) (HE1.out.alloc HE1.out.size _)
set_option maxHeartbeats 2000000 in
set_option maxRecDepth 100000 in
theorem specSkewAll_any (s : Int) (v u : Value) (l : List Ed) (xs : List Int) (w : World) (h : Edges w v l) (hl : l.length ≤ 1048576) (hu : Ints w u xs) (hxl : xs.length ≤ 1048576) (hs1 : -9223372036854775808 ≤ s) (hs2 : s ≤ 9223372036854775807) :
    Calls Try.prog 46 #[.agg #[.int .i64 s, v], u] w (RetI w (SetOk s l xs) (clsL s l 2 xs)) := by
  obtain ⟨A, c, rfl, -⟩ := h.form
  have H := Lib.hid h
  have HU := Lib.hid hu
  have b0 : Below w.heap.size w (w.alloc (.cells #[.int .i64 s, .slice A l.length c] 29)) := (Below.refl _ _).alloc (Nat.le_refl _) _
  have HG0 := Lib.hid (Blk.new w 29 #[.int .i64 s, .slice A l.length c])
  obtain ⟨p0, p1, -, -⟩ := HG0.out.two
  have HBT := Lib.hid (l9Both_any s (.slice A l.length c) u l xs _ (h.below b0) hl (hu.below b0) hxl hs1 hs2)
  have HB0 := Lib.hid b0
  clear h hu b0
  by_cases hso : SetOk s l xs
  · rw [okG_yes hso] at HBT
    have h0 := hso.1.1
    have h8 := hso.1.2.1
    obtain ⟨n, rfl⟩ : ∃ n : Nat, s = (n : Int) := ⟨s.toNat, by omega⟩
    have hn : n ≤ 8 := by omega
    have HOK := Lib.hid hso
    have HXS := Lib.hid (setOk_code hso)
    have HC := Lib.hid (code_set hso)
    have HON := Lib.hid (fun (W : World) (hW : Below w.heap.size w W) => l9All_any n (codeL xs) true (.slice A l.length c) u l W (H.out.below hW) hl (by have h_ := HU.out.below hW; rw [HXS.out] at h_; exact h_) hn HC.out)
    rw [nd_bits hn (last_ltN HC.out)] at HON
    have HV : Hid (clsL (n : Int) l 2 xs = ndN (lastN n l true (codeL xs))) := by show _ = _; unfold clsL; rw [Int.toNat_natCast] <;> rfl
    clear hso
    go_enter Try.func46, Try.ntmps46
    go_wp2_with fail
    refine HBT.out.mono ?_
    rintro e w1 ⟨rfl, b1⟩
    have HE1 := Lib.hid (btrans HB0.out b1)
    have HG1 := Lib.hid (HG0.out.below b1 HG0.out.lt)
    have HO1 := Lib.hid (HON.out w1 HE1.out)
    clear p0 p1 b1 HBT HB0 HG0 HON
    obtain ⟨p0, p1, -, -⟩ := HG1.out.two
    go_wp2_with fail
    refine HO1.out.mono ?_
    rintro e w2 ⟨A2, c2, rfl, o2, b2⟩
    go_wp2_with fail
    go_ret2
    rw [HV.out]
    exact RetI.yes HOK.out (own_base o2 HE1.out.size) (btrans HE1.out b2)
  · rw [okG_no hso] at HBT
    have HNO := Lib.hid hso
    clear hso
    go_enter Try.func46, Try.ntmps46
    go_wp2_with fail
    refine HBT.out.mono ?_
    rintro e w1 ⟨rfl, b1⟩
    have HE1 := Lib.hid (btrans HB0.out b1)
    clear p0 p1 b1
    go_wp2_with fail
    go_ret2
    exact RetI.no HNO.out (own_base (own_new0 w1 3 1) HE1.out.size) (HE1.out.alloc HE1.out.size _)
theorem len_full {n y : Nat} (hn : n ≤ 8) (hy : y < 2 ^ n) : (((nw (bitB y) n).length : Int) == (n : Int)) = (y == 2 ^ n - 1) := by
  have h8 := Nat.lt_of_lt_of_le hy (pow_le hn)
  have h1 := ones_full ⟨n, by omega⟩ ⟨y, h8⟩ hy
  rw [nw_ones hn hy, Bool.eq_iff_iff, beq_iff_eq, beq_iff_eq, ← h1]
  simp only
  omega
set_option maxHeartbeats 2000000 in
set_option maxRecDepth 100000 in
theorem l9Forces_any (n c : Nat) (v u : Value) (l : List Ed) (w : World) (h : Edges w v l) (hl : l.length ≤ 1048576) (hu : Ints w u (nw (bitB c) n)) (hn : n ≤ 8) (hc : c < 2 ^ n) :
    Calls Try.prog 69 #[.agg #[.int .i64 (n : Int), v], u] w fun e w' => e = .returned (.bool (rchN n l 0 c == 2 ^ n - 1)) ∧ Below w.heap.size w w' := by
  obtain ⟨A, cc, rfl, -⟩ := h.form
  have b0 : Below w.heap.size w (w.alloc (.cells #[.int .i64 (n : Int), .slice A l.length cc] 29)) := (Below.refl _ _).alloc (Nat.le_refl _) _
  have HB0 := Lib.hid b0
  have HG0 := Lib.hid (Blk.new w 29 #[.int .i64 (n : Int), .slice A l.length cc])
  obtain ⟨p0, p1, -, -⟩ := HG0.out.two
  have HA := Lib.hid (l9All_any n c false (.slice A l.length cc) u l ((w.alloc (.cells #[.int .i64 (n : Int), .slice A l.length cc] 29)).drew) (h.below b0.drew) hl (hu.below b0.drew) hn hc)
  have hlf := len_full hn (last_ltN (l := l) (sk := false) hc)
  have HV : Hid (rchN n l 0 c = lastN n l false c) := rfl
  rw [HV.out]
  clear h hu b0 hc HV
  generalize lastN n l false c = y at *
  generalize nw (bitB y) n = M at *
  generalize 2 ^ n - 1 = z at *
  generalize hW : w.alloc (.cells #[.int .i64 (n : Int), .slice A l.length cc] 29) = w1 at *
  have HW := Lib.hid hW
  clear hW
  go_enter Try.func69, Try.ntmps69
  go_wp2_with fail
  rw [HW.out]
  refine wp_region_held_drew (S := (fun w' : World => w'.cell? ⟨w.heap.size, 0, none⟩ = some (.int .i64 (n : Int)) ∧ w'.cell? ⟨w.heap.size, 1, none⟩ = some (.slice A l.length cc))) (by kernel_rfl) (by (try dsimp only); simp [*]) (fun hHeld => ?_)
  change wpAnyH _ _ _ _ _ _ #[false, false, false, false, false, false, false, false] _ _
  refine wpAnyH_take (i := 0) (oi := ⟨some 5, _, _, _, _, _⟩) (v := ?_) rfl (by kernel_rfl) (by kernel_rfl) (by kernel_rfl) (fun _ _ _ h => h) (Or.inl ⟨by rfl, ?_⟩) (by assumption) ?_
  rotate_left
  · (intro w hSw; (try dsimp only at hSw); go_simp; (try (with_reducible rfl)))
  try simp only [Act.put, List.setIfInBounds_toArray, List.set_cons_zero, List.set_cons_succ]
  refine wpAnyH_take (i := 1) (oi := ⟨some 6, _, _, _, _, _⟩) (v := ?_) rfl (by kernel_rfl) (by kernel_rfl) (by kernel_rfl) (fun _ _ _ h => h) (Or.inl ⟨by rfl, ?_⟩) (by assumption) ?_
  rotate_left
  · (intro w hSw; (try dsimp only at hSw); go_simp; (try (with_reducible rfl)))
  try simp only [Act.put, List.setIfInBounds_toArray, List.set_cons_zero, List.set_cons_succ]
  refine wpAnyH_take (i := 4) (oi := ⟨some 9, _, _, _, _, _⟩) (v := ?_) rfl (by kernel_rfl) (by kernel_rfl) (by kernel_rfl) (fun _ _ _ h => h) (Or.inl ⟨by rfl, ?_⟩) (by assumption) ?_
  rotate_left
  · (intro w hSw; (try dsimp only at hSw); go_simp; (try (with_reducible rfl)))
  try simp only [Act.put, List.setIfInBounds_toArray, List.set_cons_zero, List.set_cons_succ]
  refine wpAnyH_take (i := 5) (oi := ⟨some 10, _, _, _, _, _⟩) (v := ?_) rfl (by kernel_rfl) (by kernel_rfl) (by kernel_rfl) (fun _ _ _ h => h) (Or.inl ⟨by rfl, ?_⟩) (by assumption) ?_
  rotate_left
  · (intro w hSw; (try dsimp only at hSw); go_simp; (try (with_reducible rfl)))
  try simp only [Act.put, List.setIfInBounds_toArray, List.set_cons_zero, List.set_cons_succ]
  refine wpAnyH_ready (rs := [2]) (by kernel_rfl) (by simp) ?_
  refine AllReadyH.cons (o := ⟨some 7, _, _, _, _, _⟩) rfl (fun K hK => ?_) AllReadyH.nil
  go_simp
  (with_reducible refine HA.out.mono ?_); rintro e w3 ⟨A3, c3, rfl, o3, b3⟩; have d3 : Below w1.heap.size w1 w3 := btrans (Below.refl _ _).drew b3; obtain ⟨k0, k1, -, -⟩ := (HG0.out.below d3 HG0.out.lt).two
  go_wp2_with fail
  refine hK.out _ _ (by (try dsimp only); simp [*]) (fun hHeld => ?_)
  clear hK K
  try simp only [List.setIfInBounds_toArray, List.set_cons_zero, List.set_cons_succ]
  refine wpAnyH_take (i := 3) (oi := ⟨some 8, _, _, _, _, _⟩) (v := ?_) rfl (by kernel_rfl) (by kernel_rfl) (by kernel_rfl) (fun _ _ _ h => h) (Or.inl ⟨by rfl, ?_⟩) (by assumption) ?_
  rotate_left
  · (intro w hSw; (try dsimp only at hSw); go_simp; (try (with_reducible rfl)))
  try simp only [Act.put, List.setIfInBounds_toArray, List.set_cons_zero, List.set_cons_succ]
  refine wpAnyH_take (i := 6) (oi := ⟨some 11, _, _, _, _, _⟩) (v := ?_) rfl (by kernel_rfl) (by kernel_rfl) (by kernel_rfl) (fun _ _ _ h => h) (Or.inl ⟨by rfl, ?_⟩) (by assumption) ?_
  rotate_left
  · (intro w hSw; (try dsimp only at hSw); go_simp; (try (with_reducible rfl)))
  try simp only [Act.put, List.setIfInBounds_toArray, List.set_cons_zero, List.set_cons_succ]
  refine wpAnyH_take (i := 7) (oi := ⟨some 4, _, _, _, _, _⟩) (v := ?_) rfl (by kernel_rfl) (by kernel_rfl) (by kernel_rfl) (fun _ _ _ h => h) (Or.inl ⟨by rfl, ?_⟩) (by assumption) ?_
  rotate_left
  · (intro w hSw; (try dsimp only at hSw); go_simp; (try (with_reducible rfl)))
  try simp only [Act.put, List.setIfInBounds_toArray, List.set_cons_zero, List.set_cons_succ]
  refine wpAnyH_done (by kernel_rfl) ?_ _
  go_wp2_with fail
  go_ret
  exact ⟨rfl, btrans HB0.out d3⟩
set_option maxHeartbeats 2000000 in
set_option maxRecDepth 100000 in
theorem specIsForcing_any (s : Int) (v u : Value) (l : List Ed) (xs : List Int) (w : World) (h : Edges w v l) (hl : l.length ≤ 1048576) (hu : Ints w u xs) (hxl : xs.length ≤ 1048576) (hs1 : -9223372036854775808 ≤ s) (hs2 : s ≤ 9223372036854775807) :
    Calls Try.prog 29 #[.agg #[.int .i64 s, v], u] w fun e w' => e = .returned (.tuple #[.bool (okG (ForcP s l xs)), .bool (okG (SetOk s l xs))]) ∧ Below w.heap.size w w' := by
  obtain ⟨A, c, rfl, -⟩ := h.form
  have H := Lib.hid h
  have HU := Lib.hid hu
  have b0 : Below w.heap.size w (w.alloc (.cells #[.int .i64 s, .slice A l.length c] 29)) := (Below.refl _ _).alloc (Nat.le_refl _) _
  have HG0 := Lib.hid (Blk.new w 29 #[.int .i64 s, .slice A l.length c])
  obtain ⟨p0, p1, -, -⟩ := HG0.out.two
  have HBT := Lib.hid (l9Both_any s (.slice A l.length c) u l xs _ (h.below b0) hl (hu.below b0) hxl hs1 hs2)
  have HB0 := Lib.hid b0
  clear h hu b0
  by_cases hso : SetOk s l xs
  · rw [okG_yes hso] at HBT ⊢
    have h0 := hso.1.1
    have h8 := hso.1.2.1
    obtain ⟨n, rfl⟩ : ∃ n : Nat, s = (n : Int) := ⟨s.toNat, by omega⟩
    have hn : n ≤ 8 := by omega
    have HXS := Lib.hid (setOk_code hso)
    have HC := Lib.hid (code_set hso)
    have HF := Lib.hid (fun (W : World) (hW : Below w.heap.size w W) => l9Forces_any n (codeL xs) (.slice A l.length c) u l W (H.out.below hW) hl (by have h_ := HU.out.below hW; rw [HXS.out] at h_; exact h_) hn HC.out)
    have HV2 : Hid (okG (ForcP (n : Int) l xs) = (rchN n l 0 (codeL xs) == 2 ^ n - 1)) := by
      show _ = _
      rw [Bool.eq_iff_iff, okG_iff, beq_iff_eq]
      unfold ForcP
      rw [Int.toNat_natCast]
      exact ⟨fun h => h.2, fun h => ⟨hso, h⟩⟩
    clear hso
    rw [HV2.out]
    generalize (rchN n l 0 (codeL xs) == 2 ^ n - 1) = bb at *
    go_enter Try.func29, Try.ntmps29
    go_wp2_with fail
    refine HBT.out.mono ?_
    rintro e w1 ⟨rfl, b1⟩
    have HE1 := Lib.hid (btrans HB0.out b1)
    have HG1 := Lib.hid (HG0.out.below b1 HG0.out.lt)
    have HF1 := Lib.hid (HF.out w1 HE1.out)
    clear p0 p1 b1 HBT HB0 HG0 HF
    obtain ⟨p0, p1, -, -⟩ := HG1.out.two
    go_wp2_with fail
    refine HF1.out.mono ?_
    rintro e w2 ⟨rfl, b2⟩
    go_wp2_with fail
    go_ret2
    exact ⟨rfl, btrans HE1.out b2⟩
  · have HV2 : Hid (okG (ForcP s l xs) = false) := okG_no fun h => hso h.1
    rw [okG_no hso] at HBT ⊢
    rw [HV2.out]
    clear hso
    go_enter Try.func29, Try.ntmps29
    go_wp2_with fail
    refine HBT.out.mono ?_
    rintro e w1 ⟨rfl, b1⟩
    have HE1 := Lib.hid (btrans HB0.out b1)
    clear p0 p1 b1
    go_wp2_with fail
    go_ret2
    exact ⟨rfl, HE1.out⟩
theorem nd_lenP {p : Prop} (c : Nat) : (inG p (ndN c)).length ≤ 1048576 := inG_len fun _ => by
  unfold ndN
  have := nw_len (bitB c) 8
  omega
theorem cls_len (s : Int) (l : List Ed) (kind : Nat) (xs : List Int) : (inG (SetOk s l xs) (clsL s l kind xs)).length ≤ 1048576 := nd_lenP _
theorem onc_len (s : Int) (l : List Ed) (xs : List Int) : (inG (SetOk s l xs) (oncL s l xs)).length ≤ 1048576 := nd_lenP _
end Go.Proofs.Ytfphpilabfpmjaa.forc
