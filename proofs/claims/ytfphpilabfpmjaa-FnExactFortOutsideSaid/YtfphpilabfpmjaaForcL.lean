/- Forcing: the contracts of the program's ForceOnce, ForceAll, PowerAll, SkewAll, IsForcing and FortOutside. -/
import Derived.Handy
import Derived.Test.YtfphpilabfpmjaaForcK
import Derived.Deep.DeepCutAuto
import Derived.Deep.RegionHeld3
import Derived.Deep.QuietTactic
namespace Go.Proofs.Ytfphpilabfpmjaa.forc
open Go.RowKit P2 words edges ints good adjs fns sets rets covs bags bitsI ups func gridr
set_option linter.unusedVariables false

/-- the closure of a set, as a list -/
def clsL (s : Int) (l : List Ed) (kind : Nat) (xs : List Int) : List Int := ndN (rchN s.toNat l kind (codeL xs))
def oncL (s : Int) (l : List Ed) (xs : List Int) : List Int := ndN (onN s.toNat l false (codeL xs))
theorem nd_zero : nw (bitB 0) 8 = [] := by decide +kernel
theorem full_walk {n : Nat} (hn : n ≤ 8) : IntKind.u64.wrap (IntKind.u64.wrap ((2 : Int) ^ n) - 1) = ((2 ^ n - 1 : Nat) : Int) := by
  have hpn := pow_le hn
  have hp1 : 1 ≤ 2 ^ n := Nat.one_le_two_pow
  rw [wrap_pow hn, IntKind.wrap_u64]
  generalize 2 ^ n = z at *
  omega
theorem beq_castN (a b : Nat) : (((a : Nat) : Int) == ((b : Nat) : Int)) = (a == b) := by
  rw [Bool.eq_iff_iff, beq_iff_eq, beq_iff_eq]; omega
set_option maxHeartbeats 2000000 in
set_option maxRecDepth 100000 in
theorem implForceOnce_any (s : Int) (v u : Value) (l : List Ed) (xs : List Int) (w : World) (h : Edges w v l) (hl : l.length ≤ 1048576) (hu : Ints w u xs) (hxl : xs.length ≤ 1048576) :
    Calls Try.prog 19 #[.agg #[.int .i64 s, v], u] w (RetI w (SetOk s l xs) (oncL s l xs)) := by
  obtain ⟨A, c, rfl, -⟩ := h.form
  have hfd : ∀ (a b : Value) (W : World), (Instr.field 55 (.agg #[a, b]) 0).run Try.prog W = .ok a W := fun _ _ _ => rfl
  have H := Lib.hid h
  have HU := Lib.hid hu
  have b0 : Below w.heap.size w (w.alloc (.cells #[.int .i64 s, .slice A l.length c] 29)) := (Below.refl _ _).alloc (Nat.le_refl _) _
  have g0 := Blk.new w 29 #[.int .i64 s, .slice A l.length c]
  obtain ⟨p0, p1, -, -⟩ := g0.two
  have HS := Lib.hid (hasSet_any s (.slice A l.length c) u l xs _ (h.below b0) hl (hu.below b0) hxl)
  have HB0 := Lib.hid b0
  have HG0 := Lib.hid g0
  clear h hu b0 g0
  by_cases hso : SetOk s l xs
  · rw [okG_yes hso] at HS
    have h0 := hso.1.1
    have h8 := hso.1.2.1
    obtain ⟨n, rfl⟩ : ∃ n : Nat, s = (n : Int) := ⟨s.toNat, by omega⟩
    have hn : n ≤ 8 := by omega
    have HOK := Lib.hid hso
    have HC := Lib.hid (code_set hso)
    have hr := on_lt (l := l) (sk := false) (code_set hso)
    have HV : Hid (oncL (n : Int) l xs = ndN (onN n l false (codeL xs))) := by show _ = _; unfold oncL; rw [Int.toNat_natCast]
    have HND := Lib.hid (fun (W : World) => nodes_any (onN n l false (codeL xs)) W (Nat.lt_of_lt_of_le hr (Nat.le_trans (pow_le hn) (by decide))))
    clear hso hr
    go_enter Try.func19, Try.ntmps19
    go_wp2_with fail
    refine HS.out.mono ?_
    rintro e w1 ⟨rfl, b1⟩
    have HE1 := Lib.hid (btrans HB0.out b1)
    have HG1 := Lib.hid (HG0.out.below b1 HG0.out.lt)
    clear p0 p1 b1 HS HB0 HG0
    obtain ⟨p0, p1, -, -⟩ := HG1.out.two
    have HCB := Lib.hid (closedBits_any n (.slice A l.length c) l w1 (H.out.below HE1.out) hl HOK.out.1 hn)
    go_wp2_with fail
    refine HCB.out.mono ?_
    rintro e w3 ⟨A3, c3, rfl, i3, b3⟩
    have HE3 := Lib.hid (btrans HE1.out b3)
    have HI3 := Lib.hid i3
    have HBO := Lib.hid (bitsOf_any u xs w3 (HU.out.below HE3.out) hxl (fun x hx => by have := HOK.out.2.1 x hx; omega))
    clear p0 p1 b3 i3 HCB
    go_wp2_with fail
    refine HBO.out.mono ?_
    rintro e w' ⟨rfl, rfl⟩
    have HBG := Lib.hid (beginPlain_any n (codeL xs) _ l w3 HI3.out HOK.out.1 hn HC.out)
    go_wp2_with fail
    refine HBG.out.mono ?_
    rintro e w4 ⟨rfl, b4⟩
    have HE4 := Lib.hid (btrans HE3.out b4)
    have HLA := Lib.hid (after_any n (codeL xs) false _ l w4 (HI3.out.below b4) HOK.out.1 hn HC.out)
    clear b4 HBG HBO
    go_wp2_with fail
    refine HLA.out.mono ?_
    rintro e w5 ⟨rfl, b5⟩
    have HE5 := Lib.hid (btrans HE4.out b5)
    clear b5 HLA
    go_wp2_with fail
    refine (HND.out w5).mono ?_
    rintro e w6 ⟨A2, c2, rfl, o2, b2⟩
    go_wp2_with fail
    go_ret2
    rw [HV.out]
    exact RetI.yes HOK.out (own_base o2 HE5.out.size) (btrans HE5.out b2)
  · rw [okG_no hso] at HS
    have HNO := Lib.hid hso
    clear hso
    go_enter Try.func19, Try.ntmps19
    go_wp2_with fail
    refine HS.out.mono ?_
    rintro e w1 ⟨rfl, b1⟩
    have HE1 := Lib.hid (btrans HB0.out b1)
    clear p0 p1 b1
    go_wp2_with fail
    go_ret2
    exact RetI.nil HNO.out HE1.out
set_option maxHeartbeats 2000000 in
set_option maxRecDepth 100000 in
theorem implForceAll_any (s : Int) (v u : Value) (l : List Ed) (xs : List Int) (w : World) (h : Edges w v l) (hl : l.length ≤ 1048576) (hu : Ints w u xs) (hxl : xs.length ≤ 1048576) :
    Calls Try.prog 26 #[.agg #[.int .i64 s, v], u] w (RetI w (SetOk s l xs) (clsL s l 0 xs)) := by
  obtain ⟨A, c, rfl, -⟩ := h.form
  have b0 : Below w.heap.size w (w.alloc (.cells #[.int .i64 s, .slice A l.length c] 29)) := (Below.refl _ _).alloc (Nat.le_refl _) _
  obtain ⟨p0, p1, -, -⟩ := (Blk.new w 29 #[.int .i64 s, .slice A l.length c]).two
  have HB0 := Lib.hid b0
  by_cases hso : SetOk s l xs
  · have h0 := hso.1.1
    have h8 := hso.1.2.1
    obtain ⟨n, rfl⟩ : ∃ n : Nat, s = (n : Int) := ⟨s.toNat, by omega⟩
    have hn : n ≤ 8 := by omega
    have HCF := Lib.hid (colouredFrom_yes n 0 56 (.slice A l.length c) u l xs _ (h.below b0) hl (hu.below b0) hxl hso { enter := fun _ _ => by kernel_rfl, call := fun W v c h hc => beginPlain_any n c v l W h hso.1 hn hc })
    have HOK := Lib.hid hso
    have hr := rch_lt (l := l) (kind := 0) (code_set hso)
    have HV : Hid (clsL (n : Int) l 0 xs = ndN (rchN n l 0 (codeL xs))) := by show _ = _; unfold clsL; rw [Int.toNat_natCast]
    have HND := Lib.hid (fun (W : World) => nodes_any (rchN n l 0 (codeL xs)) W (Nat.lt_of_lt_of_le hr (Nat.le_trans (pow_le hn) (by decide))))
    clear h hu b0 hso hr
    rw [HV.out]
    clear HV
    unfold ndN
    generalize rchN n l 0 (codeL xs) = y at *
    go_enter Try.func26, Try.ntmps26
    go_wp2_with fail
    refine HCF.out.mono ?_
    rintro e w1 ⟨rfl, b1⟩
    have HE1 := Lib.hid (btrans HB0.out b1)
    clear p0 p1 b1 HCF
    go_wp2_with fail
    refine (HND.out w1).mono ?_
    rintro e w2 ⟨A2, c2, rfl, o2, b2⟩
    go_wp2_with fail
    go_ret2
    exact RetI.yes HOK.out (own_base o2 HE1.out.size) (btrans HE1.out b2)
  · have HCF := Lib.hid (colouredFrom_no s 56 (.slice A l.length c) u l xs _ (h.below b0) hl (hu.below b0) hxl hso)
    have HNO := Lib.hid hso
    have HND := Lib.hid (fun (W : World) => nodes_any 0 W (by decide))
    rw [nd_zero] at HND
    clear h hu b0 hso
    go_enter Try.func26, Try.ntmps26
    go_wp2_with fail
    refine HCF.out.mono ?_
    rintro e w1 ⟨rfl, b1⟩
    have HE1 := Lib.hid (btrans HB0.out b1)
    clear p0 p1 b1 HCF
    go_wp2_with fail
    refine (HND.out w1).mono ?_
    rintro e w2 ⟨A2, c2, rfl, o2, b2⟩
    go_wp2_with fail
    go_ret2
    exact RetI.no HNO.out (own_base o2 HE1.out.size) (btrans HE1.out b2)
set_option maxHeartbeats 2000000 in
set_option maxRecDepth 100000 in
theorem implPowerAll_any (s : Int) (v u : Value) (l : List Ed) (xs : List Int) (w : World) (h : Edges w v l) (hl : l.length ≤ 1048576) (hu : Ints w u xs) (hxl : xs.length ≤ 1048576) :
    Calls Try.prog 43 #[.agg #[.int .i64 s, v], u] w (RetI w (SetOk s l xs) (clsL s l 1 xs)) := by
  obtain ⟨A, c, rfl, -⟩ := h.form
  have b0 : Below w.heap.size w (w.alloc (.cells #[.int .i64 s, .slice A l.length c] 29)) := (Below.refl _ _).alloc (Nat.le_refl _) _
  obtain ⟨p0, p1, -, -⟩ := (Blk.new w 29 #[.int .i64 s, .slice A l.length c]).two
  have HB0 := Lib.hid b0
  by_cases hso : SetOk s l xs
  · have h0 := hso.1.1
    have h8 := hso.1.2.1
    obtain ⟨n, rfl⟩ : ∃ n : Nat, s = (n : Int) := ⟨s.toNat, by omega⟩
    have hn : n ≤ 8 := by omega
    have HCF := Lib.hid (colouredFrom_yes n 1 83 (.slice A l.length c) u l xs _ (h.below b0) hl (hu.below b0) hxl hso { enter := fun _ _ => by kernel_rfl, call := fun W v c h hc => beginPower_any n c v l W h hso.1 hn hc })
    have HOK := Lib.hid hso
    have hr := rch_lt (l := l) (kind := 1) (code_set hso)
    have HV : Hid (clsL (n : Int) l 1 xs = ndN (rchN n l 1 (codeL xs))) := by show _ = _; unfold clsL; rw [Int.toNat_natCast]
    have HND := Lib.hid (fun (W : World) => nodes_any (rchN n l 1 (codeL xs)) W (Nat.lt_of_lt_of_le hr (Nat.le_trans (pow_le hn) (by decide))))
    clear h hu b0 hso hr
    rw [HV.out]
    clear HV
    unfold ndN
    generalize rchN n l 1 (codeL xs) = y at *
    go_enter Try.func43, Try.ntmps43
    go_wp2_with fail
    refine HCF.out.mono ?_
    rintro e w1 ⟨rfl, b1⟩
    have HE1 := Lib.hid (btrans HB0.out b1)
    clear p0 p1 b1 HCF
    go_wp2_with fail
    refine (HND.out w1).mono ?_
    rintro e w2 ⟨A2, c2, rfl, o2, b2⟩
    go_wp2_with fail
    go_ret2
    exact RetI.yes HOK.out (own_base o2 HE1.out.size) (btrans HE1.out b2)
  · have HCF := Lib.hid (colouredFrom_no s 83 (.slice A l.length c) u l xs _ (h.below b0) hl (hu.below b0) hxl hso)
    have HNO := Lib.hid hso
    have HND := Lib.hid (fun (W : World) => nodes_any 0 W (by decide))
    rw [nd_zero] at HND
    clear h hu b0 hso
    go_enter Try.func43, Try.ntmps43
    go_wp2_with fail
    refine HCF.out.mono ?_
    rintro e w1 ⟨rfl, b1⟩
    have HE1 := Lib.hid (btrans HB0.out b1)
    clear p0 p1 b1 HCF
    go_wp2_with fail
    refine (HND.out w1).mono ?_
    rintro e w2 ⟨A2, c2, rfl, o2, b2⟩
    go_wp2_with fail
    go_ret2
    exact RetI.no HNO.out (own_base o2 HE1.out.size) (btrans HE1.out b2)
set_option maxHeartbeats 2000000 in
set_option maxRecDepth 100000 in
theorem implSkewAll_any (s : Int) (v u : Value) (l : List Ed) (xs : List Int) (w : World) (h : Edges w v l) (hl : l.length ≤ 1048576) (hu : Ints w u xs) (hxl : xs.length ≤ 1048576) :
    Calls Try.prog 47 #[.agg #[.int .i64 s, v], u] w (RetI w (SetOk s l xs) (clsL s l 2 xs)) := by
  obtain ⟨A, c, rfl, -⟩ := h.form
  have b0 : Below w.heap.size w (w.alloc (.cells #[.int .i64 s, .slice A l.length c] 29)) := (Below.refl _ _).alloc (Nat.le_refl _) _
  obtain ⟨p0, p1, -, -⟩ := (Blk.new w 29 #[.int .i64 s, .slice A l.length c]).two
  have HB0 := Lib.hid b0
  by_cases hso : SetOk s l xs
  · have h0 := hso.1.1
    have h8 := hso.1.2.1
    obtain ⟨n, rfl⟩ : ∃ n : Nat, s = (n : Int) := ⟨s.toNat, by omega⟩
    have hn : n ≤ 8 := by omega
    have HCF := Lib.hid (colouredFrom_yes n 2 84 (.slice A l.length c) u l xs _ (h.below b0) hl (hu.below b0) hxl hso { enter := fun _ _ => by kernel_rfl, call := fun W v c h hc => beginSkew_any n c v l W h hso.1 hn hc })
    have HOK := Lib.hid hso
    have hr := rch_lt (l := l) (kind := 2) (code_set hso)
    have HV : Hid (clsL (n : Int) l 2 xs = ndN (rchN n l 2 (codeL xs))) := by show _ = _; unfold clsL; rw [Int.toNat_natCast]
    have HND := Lib.hid (fun (W : World) => nodes_any (rchN n l 2 (codeL xs)) W (Nat.lt_of_lt_of_le hr (Nat.le_trans (pow_le hn) (by decide))))
    clear h hu b0 hso hr
    rw [HV.out]
    clear HV
    unfold ndN
    generalize rchN n l 2 (codeL xs) = y at *
    go_enter Try.func47, Try.ntmps47
    go_wp2_with fail
    refine HCF.out.mono ?_
    rintro e w1 ⟨rfl, b1⟩
    have HE1 := Lib.hid (btrans HB0.out b1)
    clear p0 p1 b1 HCF
    go_wp2_with fail
    refine (HND.out w1).mono ?_
    rintro e w2 ⟨A2, c2, rfl, o2, b2⟩
    go_wp2_with fail
    go_ret2
    exact RetI.yes HOK.out (own_base o2 HE1.out.size) (btrans HE1.out b2)
  · have HCF := Lib.hid (colouredFrom_no s 84 (.slice A l.length c) u l xs _ (h.below b0) hl (hu.below b0) hxl hso)
    have HNO := Lib.hid hso
    have HND := Lib.hid (fun (W : World) => nodes_any 0 W (by decide))
    rw [nd_zero] at HND
    clear h hu b0 hso
    go_enter Try.func47, Try.ntmps47
    go_wp2_with fail
    refine HCF.out.mono ?_
    rintro e w1 ⟨rfl, b1⟩
    have HE1 := Lib.hid (btrans HB0.out b1)
    clear p0 p1 b1 HCF
    go_wp2_with fail
    refine (HND.out w1).mono ?_
    rintro e w2 ⟨A2, c2, rfl, o2, b2⟩
    go_wp2_with fail
    go_ret2
    exact RetI.no HNO.out (own_base o2 HE1.out.size) (btrans HE1.out b2)
/-- forcing sets, and the others -/
def ForcP (s : Int) (l : List Ed) (xs : List Int) : Prop := SetOk s l xs ∧ rchN s.toNat l 0 (codeL xs) = 2 ^ s.toNat - 1
def OutP (s : Int) (l : List Ed) (xs : List Int) : Prop := SetOk s l xs ∧ rchN s.toNat l 0 (codeL xs) ≠ 2 ^ s.toNat - 1
def outF (s : Int) (l : List Ed) (xs : List Int) : List Int := ndN (numOf (fun z => !(rchN s.toNat l 0 (codeL xs)).testBit z) s.toNat)
set_option maxHeartbeats 2000000 in
set_option maxRecDepth 100000 in
theorem implIsForcing_any (s : Int) (v u : Value) (l : List Ed) (xs : List Int) (w : World) (h : Edges w v l) (hl : l.length ≤ 1048576) (hu : Ints w u xs) (hxl : xs.length ≤ 1048576) :
    Calls Try.prog 30 #[.agg #[.int .i64 s, v], u] w fun e w' => e = .returned (.tuple #[.bool (okG (ForcP s l xs)), .bool (okG (SetOk s l xs))]) ∧ Below w.heap.size w w' := by
  obtain ⟨A, c, rfl, -⟩ := h.form
  have b0 : Below w.heap.size w (w.alloc (.cells #[.int .i64 s, .slice A l.length c] 29)) := (Below.refl _ _).alloc (Nat.le_refl _) _
  have HG0 := Lib.hid (Blk.new w 29 #[.int .i64 s, .slice A l.length c])
  obtain ⟨p0, p1, -, -⟩ := HG0.out.two
  have HB0 := Lib.hid b0
  by_cases hso : SetOk s l xs
  · have h0 := hso.1.1
    have h8 := hso.1.2.1
    obtain ⟨n, rfl⟩ : ∃ n : Nat, s = (n : Int) := ⟨s.toNat, by omega⟩
    have hn : n ≤ 8 := by omega
    have HCF := Lib.hid (colouredFrom_yes n 0 56 (.slice A l.length c) u l xs _ (h.below b0) hl (hu.below b0) hxl hso { enter := fun _ _ => by kernel_rfl, call := fun W v c h hc => beginPlain_any n c v l W h hso.1 hn hc })
    have hfw := full_walk hn
    have HV1 : Hid (okG (SetOk (n : Int) l xs) = true) := okG_yes hso
    have HV2 : Hid (okG (ForcP (n : Int) l xs) = (rchN n l 0 (codeL xs) == 2 ^ n - 1)) := by
      show _ = _
      rw [Bool.eq_iff_iff, okG_iff, beq_iff_eq]
      unfold ForcP
      rw [Int.toNat_natCast]
      exact ⟨fun h => h.2, fun h => ⟨hso, h⟩⟩
    clear h hu b0 hso
    rw [HV1.out, HV2.out]
    generalize rchN n l 0 (codeL xs) = y at *
    generalize 2 ^ n - 1 = z at *
    have hbq := beq_castN y z
    go_enter Try.func30, Try.ntmps30
    go_wp2_with fail
    refine HCF.out.mono ?_
    rintro e w1 ⟨rfl, b1⟩
    have HE1 := Lib.hid (btrans HB0.out b1)
    have HG1 := Lib.hid (HG0.out.below b1 HG0.out.lt)
    clear p0 p1 b1 HCF
    obtain ⟨p0, p1, -, -⟩ := HG1.out.two
    go_wp2_with fail
    go_ret2
    exact ⟨rfl, HE1.out⟩
  · have HCF := Lib.hid (colouredFrom_no s 56 (.slice A l.length c) u l xs _ (h.below b0) hl (hu.below b0) hxl hso)
    have HV1 : Hid (okG (SetOk s l xs) = false) := okG_no hso
    have HV2 : Hid (okG (ForcP s l xs) = false) := okG_no fun h => hso h.1
    clear h hu b0 hso
    go_enter Try.func30, Try.ntmps30
    go_wp2_with fail
    refine HCF.out.mono ?_
    rintro e w1 ⟨rfl, b1⟩
    have HE1 := Lib.hid (btrans HB0.out b1)
    clear p0 p1 b1 HCF
    go_wp2_with fail
    go_ret2
    rw [HV1.out, HV2.out]
    exact ⟨rfl, HE1.out⟩
theorem rest_walk {n y : Nat} (hn : n ≤ 8) (hy : y < 2 ^ n) : bits .andNot .u64 ((2 ^ n - 1 : Nat) : Int) (y : Int) = (numOf (fun z => !y.testBit z) n : Int) := by
  have hp := pow_le hn
  have h2 := andNot_num (2 ^ n - 1) (bitB y) n (by omega) hn (fun z => !y.testBit z) (fun z _ => by
    rw [Nat.testBit_two_pow_sub_one]
    unfold bitB
    by_cases hz : z < n
    · simp [hz]
    · simp [hz])
  rw [num_bits hy] at h2
  exact h2
set_option maxHeartbeats 2000000 in
set_option maxRecDepth 100000 in
theorem implFortOutside_any (s : Int) (v u : Value) (l : List Ed) (xs : List Int) (w : World) (h : Edges w v l) (hl : l.length ≤ 1048576) (hu : Ints w u xs) (hxl : xs.length ≤ 1048576) :
    Calls Try.prog 36 #[.agg #[.int .i64 s, v], u] w (RetI w (OutP s l xs) (outF s l xs)) := by
  obtain ⟨A, c, rfl, -⟩ := h.form
  have b0 : Below w.heap.size w (w.alloc (.cells #[.int .i64 s, .slice A l.length c] 29)) := (Below.refl _ _).alloc (Nat.le_refl _) _
  have HG0 := Lib.hid (Blk.new w 29 #[.int .i64 s, .slice A l.length c])
  obtain ⟨p0, p1, -, -⟩ := HG0.out.two
  have HB0 := Lib.hid b0
  by_cases hso : SetOk s l xs
  · have h0 := hso.1.1
    have h8 := hso.1.2.1
    obtain ⟨n, rfl⟩ : ∃ n : Nat, s = (n : Int) := ⟨s.toNat, by omega⟩
    have hn : n ≤ 8 := by omega
    have HCF := Lib.hid (colouredFrom_yes n 0 56 (.slice A l.length c) u l xs _ (h.below b0) hl (hu.below b0) hxl hso { enter := fun _ _ => by kernel_rfl, call := fun W v c h hc => beginPlain_any n c v l W h hso.1 hn hc })
    have hfw := full_walk hn
    have hr := rch_lt (l := l) (kind := 0) (code_set hso)
    have hrw := rest_walk hn hr
    have HOUT : Hid (outF (n : Int) l xs = ndN (numOf (fun z => !(rchN n l 0 (codeL xs)).testBit z) n)) := by show _ = _; unfold outF; rw [Int.toNat_natCast]
    have hnn : numOf (fun z => !(rchN n l 0 (codeL xs)).testBit z) n < 256 := numOf_lt _ hn
    have HND := Lib.hid (fun (W : World) => nodes_any (numOf (fun z => !(rchN n l 0 (codeL xs)).testBit z) n) W (by omega))
    by_cases hfu : rchN n l 0 (codeL xs) = 2 ^ n - 1
    · have HNO : Hid (¬ OutP (n : Int) l xs) := fun h => h.2 (by rw [Int.toNat_natCast]; exact hfu)
      have hq1 : (((rchN n l 0 (codeL xs) : Nat) : Int) == ((2 ^ n - 1 : Nat) : Int)) = true := by rw [beq_iff_eq, hfu]
      clear h hu b0 hso hr hrw HOUT hnn HND hfu
      generalize rchN n l 0 (codeL xs) = y at *
      generalize 2 ^ n - 1 = z at *
      go_enter Try.func36, Try.ntmps36
      go_wp2_with fail
      refine HCF.out.mono ?_
      rintro e w1 ⟨rfl, b1⟩
      have HE1 := Lib.hid (btrans HB0.out b1)
      have HG1 := Lib.hid (HG0.out.below b1 HG0.out.lt)
      clear p0 p1 b1 HCF
      obtain ⟨p0, p1, -, -⟩ := HG1.out.two
      go_wp2_with fail
      go_ret2
      exact RetI.nil HNO.out HE1.out
    · have HOK : Hid (OutP (n : Int) l xs) := ⟨hso, by rw [Int.toNat_natCast]; exact hfu⟩
      have hq1 : (((rchN n l 0 (codeL xs) : Nat) : Int) == ((2 ^ n - 1 : Nat) : Int)) = false := by rw [beq_eq_false_iff_ne]; intro h; exact hfu (by omega)
      clear h hu b0 hso hr hnn hfu
      rw [HOUT.out]
      clear HOUT
      unfold ndN
      generalize numOf (fun z => !(rchN n l 0 (codeL xs)).testBit z) n = y2 at *
      generalize rchN n l 0 (codeL xs) = y at *
      generalize 2 ^ n - 1 = z at *
      go_enter Try.func36, Try.ntmps36
      go_wp2_with fail
      refine HCF.out.mono ?_
      rintro e w1 ⟨rfl, b1⟩
      have HE1 := Lib.hid (btrans HB0.out b1)
      have HG1 := Lib.hid (HG0.out.below b1 HG0.out.lt)
      clear p0 p1 b1 HCF
      obtain ⟨p0, p1, -, -⟩ := HG1.out.two
      go_wp2_with fail
      refine (HND.out _).mono ?_
      rintro e w2 ⟨A2, c2, rfl, o2, b2⟩
      go_wp2_with fail
      go_ret2
      exact RetI.yes HOK.out (own_base o2 HE1.out.size) (btrans HE1.out b2)
  · have HCF := Lib.hid (colouredFrom_no s 56 (.slice A l.length c) u l xs _ (h.below b0) hl (hu.below b0) hxl hso)
    have HNO : Hid (¬ OutP s l xs) := fun h => hso h.1
    clear h hu b0 hso
    go_enter Try.func36, Try.ntmps36
    go_wp2_with fail
    refine HCF.out.mono ?_
    rintro e w1 ⟨rfl, b1⟩
    have HE1 := Lib.hid (btrans HB0.out b1)
    clear p0 p1 b1 HCF
    go_wp2_with fail
    go_ret2
    exact RetI.nil HNO.out HE1.out
end Go.Proofs.Ytfphpilabfpmjaa.forc
