/- Fire plans: what they are, and the contract of the program's firesOf. -/
import Derived.Handy
import Derived.Test.YtbbgbepemnmfdaaFireI
import Derived.Test.YtbbgbepemnmfdaaSprM
import Derived.Test.YtbbgbepemnmfdaaGridR
import Derived.Deep.DeepCutAuto
import Derived.Deep.RegionHeld3
import Derived.Deep.QuietTactic
namespace Go.Proofs.Ytbbgbepemnmfdaa.fires
open Go.RowKit P2 words edges ints good adjs fns sets rets covs bitsI bags ups gridr
set_option linter.unusedVariables false

/-- the fires at first and after each round -/
def stF (l : List Ed) (n x : Nat) (rows : List (List Int)) : Nat → Fr
  | 0 => (2 ^ x, 0)
  | i + 1 => aftF l n (stF l n x rows i) (if i < rows.length then codeL (rows.getD i []) else 0)
/-- the i-th set is one that can be defended -/
def apB (n : Nat) (f : Fr) (c : Nat) : Prop := c &&& opnN n f.1 f.2 = c
def RowP (n : Nat) (l : List Ed) (x : Nat) (d : Int) (rows : List (List Int)) (i : Nat) : Prop :=
  ((rows.getD i []).length : Int) ≤ d ∧ SetOk (n : Int) l (rows.getD i []) ∧ apB n (stF l n x rows i) (codeL (rows.getD i []))
def PlanN (n : Nat) (l : List Ed) (x : Nat) (d : Int) (rows : List (List Int)) : Prop := rows.length ≤ 8 ∧ ∀ i, i < rows.length → RowP n l x d rows i
def PlanP (s : Int) (l : List Ed) (start d : Int) (rows : List (List Int)) : Prop := FireP s l start d ∧ PlanN s.toNat l start.toNat d rows
theorem zero_lt2 (n : Nat) : 0 < 2 ^ n := Nat.pow_pos (by decide)
theorem st_ok {n : Nat} {l : List Ed} {x : Nat} {d : Int} {rows : List (List Int)} (hx : x < n) (h : ∀ i, i < rows.length → SetOk (n : Int) l (rows.getD i [])) : ∀ i, FrOk n (stF l n x rows i)
  | 0 => ⟨Nat.pow_lt_pow_right (by decide) hx, zero_lt2 n⟩
  | i + 1 => aft_ok (st_ok (d := d) hx h i) (by
    split
    · rename_i hi; exact code_lt (m := n) (h i hi).2.1
    · exact zero_lt2 n)
theorem st_ok' {n : Nat} {l : List Ed} {x : Nat} {rows : List (List Int)} (hx : x < n) : ∀ i, (∀ j, j < i → j < rows.length → SetOk (n : Int) l (rows.getD j [])) → FrOk n (stF l n x rows i)
  | 0, _ => ⟨Nat.pow_lt_pow_right (by decide) hx, zero_lt2 n⟩
  | i + 1, h => aft_ok (st_ok' hx i fun j hj hj2 => h j (by omega) hj2) (by
    split
    · rename_i hi; exact code_lt (m := n) (h i (by omega) hi).2.1
    · exact zero_lt2 n)
/-- the last of the fires -/
def EndP (l : List Ed) (n x : Nat) (rows : List (List Int)) (N : Nat) : Prop :=
  rows.length ≤ N ∧ (∀ j, rows.length ≤ j → j < N → thrN l n (stF l n x rows j).1 (stF l n x rows j).2 ≠ 0) ∧ thrN l n (stF l n x rows N).1 (stF l n x rows N).2 = 0
theorem EndP.same {l : List Ed} {n x : Nat} {rows : List (List Int)} {M N : Nat} (h : EndP l n x rows M) (k : EndP l n x rows N) : M = N := by
  rcases Nat.lt_trichotomy M N with e | e | e
  · exact absurd h.2.2 (k.2.1 M h.1 e)
  · exact e
  · exact absurd k.2.2 (h.2.1 N k.1 e)
def frL (l : List Ed) (n x : Nat) (rows : List (List Int)) (k : Nat) : List Fr := (List.range (k + 1)).map (stF l n x rows)
theorem frL_len (l : List Ed) (n x : Nat) (rows : List (List Int)) (k : Nat) : (frL l n x rows k).length = k + 1 := by simp [frL]
theorem frL_succ (l : List Ed) (n x : Nat) (rows : List (List Int)) (k : Nat) : frL l n x rows (k + 1) = frL l n x rows k ++ [stF l n x rows (k + 1)] := by
  unfold frL; rw [List.range_succ (n := k + 1), List.map_append]; rfl
def cellsF (L : List Fr) : List Value := L.flatMap fun f => [.int .u64 (f.1 : Int), .int .u64 (f.2 : Int)]
theorem cellsF_app (L M : List Fr) : cellsF (L ++ M) = cellsF L ++ cellsF M := by simp [cellsF]
theorem apB_iff {n : Nat} {f : Fr} {c : Nat} (hc : c < 2 ^ n) : apB n f c ↔ ∀ y, c.testBit y = true → f.1.testBit y = false ∧ f.2.testBit y = false := by
  unfold apB
  constructor
  · intro h y hy
    have : (c &&& opnN n f.1 f.2).testBit y = true := by rw [h]; exact hy
    rw [Nat.testBit_and, hy, Bool.true_and] at this
    unfold opnN at this
    rw [numOf_bit] at this
    unfold bitB at this
    simp at this
    exact ⟨this.2.1, this.2.2⟩
  · intro h
    apply Nat.eq_of_testBit_eq
    intro i
    rw [Nat.testBit_and]
    cases hb : c.testBit i with
    | false => simp
    | true =>
      have hi : i < n := by
        by_cases e : i < n
        · exact e
        · rw [Nat.testBit_lt_two_pow (Nat.lt_of_lt_of_le hc (Nat.pow_le_pow_right (by decide) (by omega)))] at hb; cases hb
      obtain ⟨h1, h2⟩ := h i hb
      unfold opnN
      rw [numOf_bit]
      unfold bitB
      simp [hi, h1, h2]
theorem thr_more {l : List Ed} {n : Nat} {f : Fr} (hn : n ≤ 8) (hf : FrOk n f) (h : thrN l n f.1 f.2 ≠ 0) : onesN f.1 < onesN (f.1 ||| thrN l n f.1 f.2) := by
  obtain ⟨b, d⟩ := f
  simp only at h ⊢
  have hb8 : b < 256 := Nat.lt_of_lt_of_le hf.1 (pow_le hn)
  have hex : ∃ y, y < n ∧ (arB l n b y && !bitB b y && !bitB d y) = true := by
    refine Classical.byContradiction fun hno => h (numOf_zero.2 fun y hy => ?_)
    cases hb : (arB l n b y && !bitB b y && !bitB d y) with
    | false => rfl
    | true => exact absurd ⟨y, hy, hb⟩ hno
  obtain ⟨y, hy, hp⟩ := hex
  have hby : b.testBit y = false := by
    simp only [Bool.and_eq_true, Bool.not_eq_true'] at hp
    exact hp.1.2
  have h1 := ones_put hb8 (show y < 8 by omega) hby
  have h2 : onesN (b ||| 2 ^ y) ≤ onesN (b ||| thrN l n b d) := ones_mono fun k _ hk => by
    unfold bitB at hk ⊢
    rw [put_bit, Bool.or_eq_true, decide_eq_true_iff] at hk
    rw [Nat.testBit_or, Bool.or_eq_true]
    rcases hk with hk | rfl
    · exact .inl hk
    · refine .inr ?_
      unfold thrN
      rw [numOf_bit, decide_eq_true hy, hp]; rfl
  omega
theorem apB_num {n : Nat} {f : Fr} {c : Nat} (hc : c < 2 ^ n) : numOf (fun y => bitB c y && !(!bitB f.1 y && !bitB f.2 y)) n = 0 ↔ apB n f c := by
  rw [numOf_zero, apB_iff hc]
  constructor
  · intro h y hy
    have hi : y < n := by
      by_cases e : y < n
      · exact e
      · rw [Nat.testBit_lt_two_pow (Nat.lt_of_lt_of_le hc (Nat.pow_le_pow_right (by decide) (by omega)))] at hy; cases hy
    have := h y hi
    unfold bitB at this
    rw [hy] at this
    simpa using this
  · intro h y hy
    unfold bitB
    cases hb : c.testBit y with
    | false => rfl
    | true =>
      obtain ⟨h1, h2⟩ := h y hb
      simp [h1, h2]
theorem ap_walk {n : Nat} {f : Fr} {c : Nat} (hn : n ≤ 8) (hc : c < 2 ^ n) : bits .andNot .u64 (c : Int) ((opnN n f.1 f.2 : Nat) : Int) = ((numOf (fun y => bitB c y && !(!bitB f.1 y && !bitB f.2 y)) n : Nat) : Int) := by
  have := andNot_nn (bitB c) (fun y => !bitB f.1 y && !bitB f.2 y) hn
  rw [nbits hc] at this
  exact this
theorem infoF : (Try.prog.info? 91).map (fun i => (i.zero, i.size, i.bytes)) = some (some (.agg #[.int .u64 0, .int .u64 0]), 2, 16) := by kernel_rfl
theorem pushF {w1 w2 : World} {B : Nat} {s v2 : Value} {m : List Fr} {f : Fr} {o : Obj} (hrow : w1.ownsRow B 91 2 s m.length (cellsF m)) (hown : w2.ownsRow B 91 2 v2 (m.length + 1) (cellsF m ++ [.int .u64 (f.1 : Int), .int .u64 (f.2 : Int)]))
    (hg : (w1.alloc o).grownBy w2 s.ownBlock) (hB : B ≤ w1.heap.size) : w2.ownsRow B 91 2 v2 (m ++ [f]).length (cellsF (m ++ [f])) ∧ Below B w1 w2 :=
  ⟨by rw [cellsF_app, List.length_append]; exact hown, ((Below.refl B w1).alloc hB _).grown hg (by simp; omega) (fun j e => (hrow.lt j e).1)⟩
set_option maxHeartbeats 8000000 in
set_option maxRecDepth 100000 in
theorem firesOf_any (s start d : Int) (v : Value) (A2 : Option Addr) (c2 : Nat) (us : List Value) (rows : List (List Int)) (l : List Ed) (w : World) (h : Edges w v l) (hl : l.length ≤ 1048576) (hp : ReadsG w (.slice A2 rows.length c2) us rows) (hrl : rows.length ≤ 1048576) (hrr : ∀ r ∈ rows, r.length ≤ 1048576) :
    Calls Try.prog 75 #[.agg #[.int .i64 s, v], .int .i64 start, .int .i64 d, .slice A2 rows.length c2] w fun e w' =>
      ((PlanP s l start d rows ∧ ∃ N A c, EndP l s.toNat start.toNat rows N ∧ N ≤ 20 ∧ e = .returned (.tuple #[.slice A (N + 1) c, .bool true]) ∧ w'.ownsRow w.heap.size 91 2 (.slice A (N + 1) c) (N + 1) (cellsF (frL l s.toNat start.toNat rows N))) ∨ (¬ PlanP s l start d rows ∧ e = .returned (.tuple #[.slice none 0 0, .bool false]))) ∧ Below w.heap.size w w' := by
  obtain ⟨i0, hi, hz0, hz1, hz2⟩ := info_parts infoF
  obtain ⟨A, c, rfl, -⟩ := h.form
  have H := Lib.hid h
  have HP := Lib.hid hp
  have HRR := Lib.hid hrr
  have b0 : Below w.heap.size w (w.alloc (.cells #[.int .i64 s, .slice A l.length c] 29)) := (Below.refl _ _).alloc (Nat.le_refl _) _
  have g0 := Blk.new w 29 #[.int .i64 s, .slice A l.length c]
  obtain ⟨p0, p1, -, -⟩ := g0.two
  have HIF := Lib.hid (isFire_any s start d _ l _ (h.below b0) hl)
  have HB0 := Lib.hid b0
  have HG0 := Lib.hid g0
  clear h hp hrr b0 g0
  by_cases hfp : FireP s l start d
  · rw [okG_yes hfp] at HIF
    by_cases hr8 : rows.length ≤ 8
    · have hr8' : ¬ (8 : Int) < (rows.length : Int) := by omega
      have hng := nodesB_iff.1 hfp.1
      have HGD := Lib.hid hng.1
      have h0 := hng.1.1
      have h8 := hng.1.2.1
      have hst := hng.2 start (by simp)
      obtain ⟨n, rfl⟩ : ∃ n : Nat, s = (n : Int) := ⟨s.toNat, by omega⟩
      have hn : n ≤ 8 := by omega
      obtain ⟨x, rfl⟩ : ∃ x : Nat, start = (x : Int) := ⟨start.toNat, by omega⟩
      have hxn : x < n := by omega
      have hd0 := hfp.2.1
      have hd3 := hfp.2.2
      have HPP : Hid (PlanP (n : Int) l (x : Int) d rows ↔ ∀ i, i < rows.length → RowP n l x d rows i) := by
        show _ ↔ _
        unfold PlanP PlanN
        rw [Int.toNat_natCast, Int.toNat_natCast]
        exact ⟨fun h => h.2.2, fun h => ⟨hfp, hr8, h⟩⟩
      rw [Int.toNat_natCast, Int.toNat_natCast]
      clear hfp hng hst
      go_enter Try.func75, Try.ntmps75
      go_wp2_with fail
      refine HIF.out.mono ?_
      rintro e w1 ⟨rfl, b1⟩
      have HE1 := Lib.hid (btrans HB0.out b1)
      have HG1 := Lib.hid (HG0.out.below b1 HG0.out.lt)
      clear p0 p1 b1 HIF HB0 HG0
      obtain ⟨p0, p1, -, -⟩ := HG1.out.two
      have HCB := Lib.hid (closedBits_any n (.slice A l.length c) l w1 (H.out.below HE1.out) hl HGD.out hn)
      go_wp2_with fail
      refine HCB.out.mono ?_
      rintro e w2 ⟨A3, c3, rfl, i3, b3⟩
      have HE2 := Lib.hid (btrans HE1.out b3)
      have HG2 := Lib.hid (HG1.out.below b3 HG1.out.lt)
      have HI2 := Lib.hid i3
      have hwp := wrap_pow (m := x) (by omega)
      clear p0 p1 b3 i3 HCB HE1 HG1
      obtain ⟨p0, p1, -, -⟩ := HG2.out.two
      generalize hzz : 2 ^ x = z at *
      have HZZ := Lib.hid hzz
      clear hzz
      go_wp2_with fail
      have HGF : Hid (Blk ((w2.alloc (.cells #[.int .u64 (z : Int), .int .u64 0] 91)).alloc (.cells #[.int .u64 (z : Int), .int .u64 0] 91)) w2.heap.size 91 #[.int .u64 ((stF l n x rows 0).1 : Int), .int .u64 ((stF l n x rows 0).2 : Int)]) := by
        show Blk _ _ _ _
        unfold stF
        rw [HZZ.out]
        exact (Blk.new w2 91 #[.int .u64 (z : Int), .int .u64 0]).alloc _
      have ba : Below w2.heap.size w2 ((w2.alloc (.cells #[.int .u64 (z : Int), .int .u64 0] 91)).alloc (.cells #[.int .u64 (z : Int), .int .u64 0] 91)) := ((Below.refl _ _).alloc (Nat.le_refl _) _).alloc (by simp) _
      have HBA := Lib.hid ba
      have HGA := Lib.hid (HG2.out.below ba HG2.out.lt)
      have o0 := World.ownsRow_lit (base := w2.heap.size + 1) (e := 91) (size := 2) (w2.alloc (.cells #[.int .u64 (z : Int), .int .u64 0] 91)) #[.int .u64 (z : Int), .int .u64 0] 1 (by simp) (by unfold maxLen; omega) rfl
      rw [World.size_alloc] at o0
      have HO0 : Hid (((w2.alloc (.cells #[.int .u64 (z : Int), .int .u64 0] 91)).alloc (.cells #[.int .u64 (z : Int), .int .u64 0] 91)).ownsRow (w2.heap.size + 1) 91 2 (.slice (some ⟨w2.heap.size + 1, 0, none⟩) 1 1) (frL l n x rows 0).length (cellsF (frL l n x rows 0))) := by
        show World.ownsRow _ _ _ _ _ _ _
        have e1 : frL l n x rows 0 = [(z, 0)] := by unfold frL; rw [← HZZ.out]; rfl
        rw [e1]
        exact o0
      have HX0 : Hid (∀ i, i < 0 → RowP n l x d rows i) := fun i hi => by omega
      clear o0 ba p0 p1
      go_loopg [12, 34] rows.length (fun g rv iv wr => ∃ (k : Nat) (ow : Value), ow = rv ∧ k + g = rows.length ∧ iv = .int .i64 (k : Int) ∧ Hid (∀ i, i < k → RowP n l x d rows i) ∧ wr.ownsRow (w2.heap.size + 1) 91 2 ow (frL l n x rows k).length (cellsF (frL l n x rows k)) ∧ Blk wr w2.heap.size 91 #[.int .u64 ((stF l n x rows k).1 : Int), .int .u64 ((stF l n x rows k).2 : Int)] ∧ Blk wr w.heap.size 29 #[.int .i64 (n : Int), .slice A l.length c] ∧ Below w2.heap.size w2 wr)
      case atStart => exact ⟨0, _, rfl, by omega, rfl, HX0, HO0.out, HGF.out, HGA.out, HBA.out⟩
      case round =>
        clear HX0 HO0 HGF HGA HBA
        obtain ⟨k, ow, rfl, hkg, rfl, hok, hrow, hfb, hgb, hB⟩ := hrel
        obtain ⟨A4, c4, rfl⟩ := own_form hrow
        have hfl := frL_len l n x rows k
        have HFO := Lib.hid (st_ok' (rows := rows) (l := l) hxn k fun j hj _ => (hok.out j hj).2.1)
        have HR := Lib.hid hrow
        have HF := Lib.hid hfb
        have HG := Lib.hid hgb
        have HB := Lib.hid hB
        obtain ⟨p0, p1, -, -⟩ := hgb.two
        obtain ⟨m0, m1, y0, y1⟩ := hfb.two
        cases gk with
        | zero =>
          obtain rfl : k = rows.length := by omega
          have HOKS : Hid (∀ i, i < rows.length → SetOk (n : Int) l (rows.getD i [])) := fun i hi => (hok.out i hi).2.1
          have HPL := Lib.hid (HPP.out.2 hok.out)
          have HTR0 : Hid (∀ j, rows.length ≤ j → j < rows.length → thrN l n (stF l n x rows j).1 (stF l n x rows j).2 ≠ 0) := fun j h1 h2 => by omega
          have HKL0 : Hid (rows.length ≤ rows.length + onesN (stF l n x rows rows.length).1) := Nat.le_add_right _ _
          have HSO := Lib.hid (fun i => st_ok (d := d) hxn HOKS.out i)
          clear hrow hfb hgb hB HFO hfl p0 p1 m0 m1 y0 y1
          go_wp2_with fail
          obtain ⟨wo, hwo⟩ : ∃ wo, wo = wr := ⟨_, rfl⟩
          clear hwo
          go_loopg [12] 8 (fun g rv wr => ∃ (k : Nat) (ow : Value), ow = rv ∧ 8 ≤ onesN (stF l n x rows k).1 + g ∧ Hid (rows.length ≤ k) ∧ Hid (∀ j, rows.length ≤ j → j < k → thrN l n (stF l n x rows j).1 (stF l n x rows j).2 ≠ 0) ∧ Hid (k ≤ rows.length + onesN (stF l n x rows k).1) ∧ wr.ownsRow (w2.heap.size + 1) 91 2 ow (frL l n x rows k).length (cellsF (frL l n x rows k)) ∧ Blk wr w2.heap.size 91 #[.int .u64 ((stF l n x rows k).1 : Int), .int .u64 ((stF l n x rows k).2 : Int)] ∧ Blk wr w.heap.size 29 #[.int .i64 (n : Int), .slice A l.length c] ∧ Below w2.heap.size w2 wr)
          case atStart => exact ⟨rows.length, _, rfl, by omega, Nat.le_refl _, HTR0, HKL0, HR.out, HF.out, HG.out, HB.out⟩
          case round =>
            clear HTR0 HKL0 HR HF HG HB
            obtain ⟨k, ow, rfl, hms, hmk, htr, hkl, hrow, hfb, hgb, hB⟩ := hrel
            obtain ⟨A7, c7, rfl⟩ := own_form hrow
            obtain ⟨m0, m1, y0, y1⟩ := hfb.two
            have hol := ones_le (stF l n x rows k).1
            have hk20 : k ≤ 20 := by have := hkl.out; omega
            have hfl8 : (frL l n x rows k).length ≤ 300 := by rw [frL_len]; omega
            have HR := Lib.hid hrow
            have HF := Lib.hid hfb
            have HG := Lib.hid hgb
            have HB := Lib.hid hB
            have HTH := Lib.hid (thr_any n (stF l n x rows k) (.slice A3 (clos l n).length c3) l wr (HI2.out.below hB) HGD.out hn (HSO.out k))
            clear hrow hfb hgb hB
            by_cases ht : thrN l n (stF l n x rows k).1 (stF l n x rows k).2 = 0
            · have HEN : Hid (EndP l n x rows k) := ⟨hmk.out, htr.out, ht⟩
              have HK20 := Lib.hid hk20
              have HRF : Hid (wr.ownsRow w.heap.size 91 2 (.slice A7 (frL l n x rows k).length c7) (frL l n x rows k).length (cellsF (frL l n x rows k))) := own_base HR.out (by have := HE2.out.size; omega)
              have HBF := Lib.hid (btrans HE2.out HB.out)
              rw [ht] at HTH
              clear ht hol hk20 hms
              go_wp2_with fail
              refine HTH.out.mono ?_
              rintro e w5 ⟨rfl, b5⟩
              have HR5 := Lib.hid (own_below HRF.out b5)
              have HB5 := Lib.hid (btrans HBF.out b5)
              clear b5 m0 m1 y0 y1
              go_wp2_with fail
              go_ret2
              have HRX := HR5.out
              rw [frL_len] at HRX ⊢
              exact ⟨.inl ⟨HPL.out, k, A7, c7, HEN.out, HK20.out, rfl, HRX⟩, HB5.out⟩
            · have HMO := Lib.hid (thr_more hn (HSO.out k) ht)
              have HS1 : Hid (stF l n x rows (k + 1) = aftF l n (stF l n x rows k) 0) := by
                show aftF l n (stF l n x rows k) (if k < rows.length then _ else 0) = _
                rw [if_neg (by have := hmk.out; omega)]
              have HA1 : Hid ((aftF l n (stF l n x rows k) 0).1 = (stF l n x rows k).1 ||| thrN l n (stF l n x rows k).1 (stF l n x rows k).2) := by
                show (stF l n x rows k).1 ||| thrN l n (stF l n x rows k).1 ((stF l n x rows k).2 ||| 0) = _
                rw [Nat.or_zero]
              have HTRN : Hid (∀ j, rows.length ≤ j → j < k + 1 → thrN l n (stF l n x rows j).1 (stF l n x rows j).2 ≠ 0) := fun j h1 h2 => by
                by_cases e : j = k
                · subst e; exact ht
                · exact htr.out j h1 (by omega)
              have ht' : ((thrN l n (stF l n x rows k).1 (stF l n x rows k).2 : Nat) : Int) ≠ 0 := by omega
              have ht2 : (((thrN l n (stF l n x rows k).1 (stF l n x rows k).2 : Nat) : Int) != 0) = true := by simpa using ht
              have ht3 : (thrN l n (stF l n x rows k).1 (stF l n x rows k).2 != 0) = true := by simpa using ht
              have HAF := Lib.hid (fun (W : World) (hW : Below wr.heap.size wr W) => aft_any n (stF l n x rows k) 0 (.slice A3 (clos l n).length c3) l W ((HI2.out.below HB.out).below hW) HGD.out hn (HSO.out k) (zero_lt2 n))
              have HMS : Hid (onesN (stF l n x rows k).1 < onesN (stF l n x rows (k + 1)).1) := by
                show _ < _
                rw [HS1.out, HA1.out]; exact HMO.out
              have HOL2 := Lib.hid (ones_le (stF l n x rows (k + 1)).1)
              clear hol
              go_wp2_with fail
              refine HTH.out.mono ?_
              rintro e w5 ⟨rfl, b5⟩
              have HA5 := Lib.hid (HAF.out w5 b5)
              have HR5 := Lib.hid (own_below HR.out b5)
              have HF5 := Lib.hid (HF.out.below b5 HF.out.lt)
              have HG5 := Lib.hid (HG.out.below b5 HG.out.lt)
              have HB5 := Lib.hid (btrans HB.out b5)
              clear b5 m0 m1 y0 y1 HTH HR HF HG HB
              obtain ⟨m0, m1, y0, y1⟩ := HF5.out.two
              generalize thrN l n (stF l n x rows k).1 (stF l n x rows k).2 = tq at *
              go_wp2_with fail
              refine HA5.out.mono ?_
              rintro e w6 ⟨rfl, b6⟩
              rw [← HS1.out]
              have HR6 := Lib.hid (own_below HR5.out b6)
              have HF6 := Lib.hid (HF5.out.below b6 HF5.out.lt)
              have HG6 := Lib.hid (HG5.out.below b6 HG5.out.lt)
              have HB6 := Lib.hid (btrans HB5.out b6)
              clear b6 m0 m1 y0 y1 HR5 HF5 HG5 HB5
              obtain ⟨m0, m1, y0, y1⟩ := HF6.out.two
              have HF7 : Hid (Blk ((w6.setCell ⟨w2.heap.size, 0, none⟩ (.int .u64 ((stF l n x rows (k + 1)).1 : Int))).setCell ⟨w2.heap.size, 1, none⟩ (.int .u64 ((stF l n x rows (k + 1)).2 : Int))) w2.heap.size 91 #[.int .u64 ((stF l n x rows (k + 1)).1 : Int), .int .u64 ((stF l n x rows (k + 1)).2 : Int)]) := by
                have h_ := (HF6.out.set_ 0 (.int .u64 ((stF l n x rows (k + 1)).1 : Int))).set_ 1 (.int .u64 ((stF l n x rows (k + 1)).2 : Int))
                show Blk _ _ _ _
                simpa using h_
              have HG7 := Lib.hid ((HG6.out.far (p := ⟨w2.heap.size, 0, none⟩) (by have := HG2.out.lt; show w.heap.size ≠ w2.heap.size; omega) (.int .u64 ((stF l n x rows (k + 1)).1 : Int))).far (p := ⟨w2.heap.size, 1, none⟩) (by have := HG2.out.lt; show w.heap.size ≠ w2.heap.size; omega) (.int .u64 ((stF l n x rows (k + 1)).2 : Int)))
              have hne7 : (Value.slice A7 (frL l n x rows k).length c7).ownBlock = none ∨ (Value.slice A7 (frL l n x rows k).length c7).ownBlock ≠ some w2.heap.size := by
                cases hv : (Value.slice A7 (frL l n x rows k).length c7).ownBlock with
                | none => exact .inl rfl
                | some q => exact .inr fun e => by cases e; have := (HR6.out.lt _ hv).1; omega
              have HR7 := Lib.hid (HR6.out.kept (gset (gset (World.grownBy.refl w6 (some w2.heap.size)) 0 (.int .u64 ((stF l n x rows (k + 1)).1 : Int))) 1 (.int .u64 ((stF l n x rows (k + 1)).2 : Int))) hne7)
              have HB7 := Lib.hid ((HB6.out.setCell (p := ⟨w2.heap.size, 0, none⟩) (Nat.le_refl _) (.int .u64 ((stF l n x rows (k + 1)).1 : Int))).setCell (p := ⟨w2.heap.size, 1, none⟩) (Nat.le_refl _) (.int .u64 ((stF l n x rows (k + 1)).2 : Int)))
              have hsz7 := HB7.out.size
              have HSZF := Lib.hid HF7.out.lt
              clear HR6 HF6 HG6 HB6 hne7
              have HFS := Lib.hid (frL_succ l n x rows k)
              have HSE : Hid ((((w6.setCell ⟨w2.heap.size, 0, none⟩ (.int .u64 ((stF l n x rows (k + 1)).1 : Int))).setCell ⟨w2.heap.size, 1, none⟩ (.int .u64 ((stF l n x rows (k + 1)).2 : Int))).heap.size) = w6.heap.size) := by show _ = _; simp
              go_wp2_with
                (generalize (w6.setCell ⟨w2.heap.size, 0, none⟩ (.int .u64 ((stF l n x rows (k + 1)).1 : Int))).setCell ⟨w2.heap.size, 1, none⟩ (.int .u64 ((stF l n x rows (k + 1)).2 : Int)) = w7 at *
                 have hlt7 := HSZF.out
                 at_builtin
                 go_loud (refine wpList_append_own _ rfl _ _ 83 rfl (w2.heap.size + 1) 91 i0 (.agg #[.int .u64 0, .int .u64 0]) 2 16 Try.underlying83 hi hz0 hz1 hz2 rfl (by decide) _ _ _ rfl (HR7.out.alloc _) ⟨w6.heap.size, 0, none⟩ 1 1 [.int .u64 ((stF l n x rows (k + 1)).1 : Int), .int .u64 ((stF l n x rows (k + 1)).2 : Int)] rfl rfl (by rw [← HSE.out]; exact cell_two_new _ _ _ _) (fun x hx => by simp at hx; rcases hx with rfl | rfl <;> rfl) (by unfold maxLen; omega) (by omega) (by simp; omega) ?_)
                 intro v2 w8 hown2 hgrow2 _)
              have hlt7 := HSZF.out
              have hne8 : ∀ q, q < w2.heap.size + 1 → some q ≠ (Value.slice A7 (frL l n x rows k).length c7).ownBlock := fun q hq e => by have := (HR7.out.lt q e.symm).1; omega
              have HF8 := Lib.hid ((HF7.out.alloc (.cells #[.int .u64 ((stF l n x rows (k + 1)).1 : Int), .int .u64 ((stF l n x rows (k + 1)).2 : Int)] 91)).grown hgrow2 (hne8 _ (by omega)))
              have HG8 := Lib.hid ((HG7.out.alloc (.cells #[.int .u64 ((stF l n x rows (k + 1)).1 : Int), .int .u64 ((stF l n x rows (k + 1)).2 : Int)] 91)).grown hgrow2 (hne8 _ (by have := HG2.out.lt; omega)))
              obtain ⟨hown3, hB8⟩ := pushF HR7.out hown2 hgrow2 (by omega)
              rw [← HFS.out] at hown3
              have HR8 := Lib.hid hown3
              have HB8 := Lib.hid (HB7.out.trans (hB8.mono (by omega)))
              clear hown2 hgrow2 hown3 hB8 hne8 hfl8
              go_roundg (gk - 1)
              case measure => have := HMS.out; have := HOL2.out; omega
              case rel => exact ⟨k + 1, _, rfl, by have := HMS.out; omega, Nat.le_succ_of_le hmk.out, HTRN, by have := hkl.out; have := HMS.out; exact Lib.hid (by omega), HR8.out, HF8.out, HG8.out, HB8.out⟩
        | succ g2 =>
          have hlt : k < rows.length := by omega
          have hlt' : (k : Int) < (rows.length : Int) := by omega
          obtain ⟨r, hr⟩ : ∃ r, rows[k]? = some r := ⟨_, List.getElem?_eq_getElem hlt⟩
          have HRK : Hid (rows.getD k [] = r) := by show _ = _; rw [List.getD_eq_getElem?_getD, hr]; rfl
          obtain ⟨u, g5, o5, hu, rfl, q5, hri⟩ := HP.out.row hr
          obtain ⟨A6, c6, rfl, -⟩ := hri.form
          have HRI := Lib.hid hri
          have HRL := Lib.hid (HRR.out r (List.mem_of_getElem? hr))
          have q6 := nearv.cell_keep (nearv.cell_keep q5 HE2.out) hB
          have HSK : Hid (∀ W : World, Below wr.heap.size wr W → W.cell? ⟨w.heap.size, 0, none⟩ = some (.int .i64 (n : Int)) ∧ W.cell? ⟨w.heap.size, 1, none⟩ = some (.slice A l.length c) ∧ W.cell? ⟨w2.heap.size, 0, none⟩ = some (.int .u64 ((stF l n x rows k).1 : Int)) ∧ W.cell? ⟨w2.heap.size, 1, none⟩ = some (.int .u64 ((stF l n x rows k).2 : Int))) := fun W hW => by
            obtain ⟨a0, a1, -, -⟩ := (HG.out.below hW HG.out.lt).two
            obtain ⟨a2, a3, -, -⟩ := (HF.out.below hW HF.out.lt).two
            exact ⟨a0, a1, a2, a3⟩
          have HBW := Lib.hid (btrans HE2.out HB.out)
          have HHS := Lib.hid (hasSet_any (n : Int) (.slice A l.length c) (.slice A6 r.length c6) l r wr.drew (H.out.below HBW.out.drew) hl (HRI.out.below HBW.out.drew) HRL.out)
          have hfl8 : (frL l n x rows k).length ≤ 300 := by omega
          have HNP : Hid (∀ h : ¬ RowP n l x d rows k, ¬ PlanP (n : Int) l (x : Int) d rows) := fun h hp => h (HPP.out.1 hp k hlt)
          have HRP : Hid (RowP n l x d rows k ↔ (r.length : Int) ≤ d ∧ SetOk (n : Int) l r ∧ apB n (stF l n x rows k) (codeL r)) := by
            show _ ↔ _
            unfold RowP
            rw [HRK.out]
          clear hr hu q5 hri hrow hfb hgb hB hfl
          by_cases hld : (r.length : Int) ≤ d
          · have hld' : ¬ d < (r.length : Int) := by omega
            have hdd : decide (d < (r.length : Int)) = false := decide_eq_false hld'
            by_cases hso : SetOk (n : Int) l r
            · rw [okG_yes hso] at HHS
              have HC2 : Hid (codeL r < 2 ^ n) := code_lt (m := n) hso.2.1
              have HRG : Hid (∀ y ∈ r, 0 ≤ y ∧ y < 8) := fun y hy => by have := hso.2.1 y hy; omega
              have HBO := Lib.hid (fun (W : World) (hW : Below wr.heap.size wr W) => bitsOf_any (.slice A6 r.length c6) r W (HRI.out.below (btrans HBW.out hW)) HRL.out HRG.out)
              have HOP := Lib.hid (fun (W : World) (hW : Below wr.heap.size wr W) => opn_any n (stF l n x rows k) (.slice A3 (clos l n).length c3) l W ((HI2.out.below HB.out).below hW) hn HFO.out)
              have hand := ap_walk (f := stF l n x rows k) hn HC2.out
              have HAN := Lib.hid (apB_num (f := stF l n x rows k) HC2.out)
              have HS1 : Hid (stF l n x rows (k + 1) = aftF l n (stF l n x rows k) (codeL r)) := by
                show aftF l n (stF l n x rows k) (if k < rows.length then codeL (rows.getD k []) else 0) = _
                rw [if_pos hlt, HRK.out]
              have HAF := Lib.hid (fun (W : World) (hW : Below wr.heap.size wr W) => aft_any n (stF l n x rows k) (codeL r) (.slice A3 (clos l n).length c3) l W ((HI2.out.below HB.out).below hW) HGD.out hn HFO.out HC2.out)
              have HSO1 := Lib.hid hso
              clear hso
              generalize codeL r = cc at *
              generalize numOf (fun y => bitB cc y && !(!bitB (stF l n x rows k).1 y && !bitB (stF l n x rows k).2 y)) n = qq at *
              generalize opnN n (stF l n x rows k).1 (stF l n x rows k).2 = oo at *
              by_cases hap : qq = 0
              · have d1 : ((qq : Int) != 0) = false := by rw [hap]; rfl
                have d2 : (qq != 0) = false := by rw [hap]; rfl
                have HOKN : Hid (∀ i, i < k + 1 → RowP n l x d rows i) := fun i hi => by
                  by_cases e : i = k
                  · subst e; exact HRP.out.2 ⟨hld, HSO1.out, HAN.out.1 hap⟩
                  · exact hok.out i (by omega)
                clear hap
                go_wp2_with fail
                refine wp_region_held_drew (S := (fun W : World => W.cell? ⟨w.heap.size, 0, none⟩ = some (.int .i64 (n : Int)) ∧ W.cell? ⟨w.heap.size, 1, none⟩ = some (.slice A l.length c) ∧ W.cell? ⟨w2.heap.size, 0, none⟩ = some (.int .u64 ((stF l n x rows k).1 : Int)) ∧ W.cell? ⟨w2.heap.size, 1, none⟩ = some (.int .u64 ((stF l n x rows k).2 : Int)))) (by kernel_rfl) (by (try dsimp only); simp [*]) (fun hHeld => ?_)
                change wpAnyH _ _ _ _ _ _ #[false, false, false, false, false, false, false, false, false, false, false, false, false, false, false, false, false, false, false] _ _
                refine wpAnyH_take (i := 0) (oi := ⟨some 38, _, _, _, _, _⟩) (v := ?_) rfl (by kernel_rfl) (by kernel_rfl) (by kernel_rfl) (fun _ _ _ h => h) (Or.inl ⟨by rfl, ?_⟩) (by assumption) ?_
                rotate_left
                · (intro w hSw; (try dsimp only at hSw); go_simp; (try (with_reducible rfl)))
                try simp only [Act.put, List.setIfInBounds_toArray, List.set_cons_zero, List.set_cons_succ]
                refine wpAnyH_take (i := 1) (oi := ⟨some 39, _, _, _, _, _⟩) (v := ?_) rfl (by kernel_rfl) (by kernel_rfl) (by kernel_rfl) (fun _ _ _ h => h) (Or.inl ⟨by rfl, ?_⟩) (by assumption) ?_
                rotate_left
                · (intro w hSw; (try dsimp only at hSw); go_simp; (try (with_reducible rfl)))
                try simp only [Act.put, List.setIfInBounds_toArray, List.set_cons_zero, List.set_cons_succ]
                refine wpAnyH_take (i := 2) (oi := ⟨some 40, _, _, _, _, _⟩) (v := ?_) rfl (by kernel_rfl) (by kernel_rfl) (by kernel_rfl) (fun _ _ _ h => h) (Or.inl ⟨by rfl, ?_⟩) (by assumption) ?_
                rotate_left
                · (intro w hSw; (try dsimp only at hSw); go_simp; (try (with_reducible rfl)))
                try simp only [Act.put, List.setIfInBounds_toArray, List.set_cons_zero, List.set_cons_succ]
                refine wpAnyH_take (i := 3) (oi := ⟨some 41, _, _, _, _, _⟩) (v := ?_) rfl (by kernel_rfl) (by kernel_rfl) (by kernel_rfl) (fun _ _ _ h => h) (Or.inl ⟨by rfl, ?_⟩) (by assumption) ?_
                rotate_left
                · (intro w hSw; (try dsimp only at hSw); go_simp; (try (with_reducible rfl)))
                try simp only [Act.put, List.setIfInBounds_toArray, List.set_cons_zero, List.set_cons_succ]
                refine wpAnyH_take (i := 4) (oi := ⟨some 42, _, _, _, _, _⟩) (v := ?_) rfl (by kernel_rfl) (by kernel_rfl) (by kernel_rfl) (fun _ _ _ h => h) (Or.inl ⟨by rfl, ?_⟩) (by assumption) ?_
                rotate_left
                · (intro w hSw; (try dsimp only at hSw); go_simp; (try (with_reducible rfl)))
                try simp only [Act.put, List.setIfInBounds_toArray, List.set_cons_zero, List.set_cons_succ]
                refine wpAnyH_take (i := 5) (oi := ⟨some 43, _, _, _, _, _⟩) (v := ?_) rfl (by kernel_rfl) (by kernel_rfl) (by kernel_rfl) (fun _ _ _ h => h) (Or.inl ⟨by rfl, ?_⟩) (by assumption) ?_
                rotate_left
                · (intro w hSw; (try dsimp only at hSw); go_simp; (try (with_reducible rfl)))
                try simp only [Act.put, List.setIfInBounds_toArray, List.set_cons_zero, List.set_cons_succ]
                refine wpAnyH_take (i := 6) (oi := ⟨some 44, _, _, _, _, _⟩) (v := ?_) rfl (by kernel_rfl) (by kernel_rfl) (by kernel_rfl) (fun _ _ _ h => h) (Or.inl ⟨by rfl, ?_⟩) (by assumption) ?_
                rotate_left
                · (intro w hSw; (try dsimp only at hSw); go_simp; (try (with_reducible rfl)))
                try simp only [Act.put, List.setIfInBounds_toArray, List.set_cons_zero, List.set_cons_succ]
                refine wpAnyH_ready (rs := [7]) (by kernel_rfl) (by simp) ?_
                refine AllReadyH.cons (o := ⟨some 45, _, _, _, _, _⟩) rfl (fun K hK => ?_) AllReadyH.nil
                go_simp
                refine HHS.out.mono ?_; rintro e w4 ⟨rfl, b4⟩; have d4 : Below wr.heap.size wr w4 := btrans (Below.refl _ _).drew b4; obtain ⟨k0, k1, k2, k3⟩ := HSK.out w4 d4
                go_wp2_with fail
                refine hK.out _ _ (by (try dsimp only); simp [*]) (fun hHeld => ?_)
                clear hK K
                try simp only [List.setIfInBounds_toArray, List.set_cons_zero, List.set_cons_succ]
                refine wpAnyH_take (i := 8) (oi := ⟨some 46, _, _, _, _, _⟩) (v := ?_) rfl (by kernel_rfl) (by kernel_rfl) (by kernel_rfl) (fun _ _ _ h => h) (Or.inl ⟨by rfl, ?_⟩) (by assumption) ?_
                rotate_left
                · (intro w hSw; (try dsimp only at hSw); go_simp; (try (with_reducible rfl)))
                try simp only [Act.put, List.setIfInBounds_toArray, List.set_cons_zero, List.set_cons_succ]
                refine wpAnyH_take (i := 9) (oi := ⟨some 47, _, _, _, _, _⟩) (v := ?_) rfl (by kernel_rfl) (by kernel_rfl) (by kernel_rfl) (fun _ _ _ h => h) (Or.inl ⟨by rfl, ?_⟩) (by assumption) ?_
                rotate_left
                · (intro w hSw; (try dsimp only at hSw); go_simp; (try (with_reducible rfl)))
                try simp only [Act.put, List.setIfInBounds_toArray, List.set_cons_zero, List.set_cons_succ]
                refine wpAnyH_take (i := 10) (oi := ⟨some 48, _, _, _, _, _⟩) (v := ?_) rfl (by kernel_rfl) (by kernel_rfl) (by kernel_rfl) (fun _ _ _ h => h) (Or.inl ⟨by rfl, ?_⟩) (by assumption) ?_
                rotate_left
                · (intro w hSw; (try dsimp only at hSw); go_simp; (try (with_reducible rfl)))
                try simp only [Act.put, List.setIfInBounds_toArray, List.set_cons_zero, List.set_cons_succ]
                refine wpAnyH_take (i := 11) (oi := ⟨some 49, _, _, _, _, _⟩) (v := ?_) rfl (by kernel_rfl) (by kernel_rfl) (by kernel_rfl) (fun _ _ _ h => h) (Or.inl ⟨by rfl, ?_⟩) (by assumption) ?_
                rotate_left
                · (intro w hSw; (try dsimp only at hSw); go_simp; (try (with_reducible rfl)))
                try simp only [Act.put, List.setIfInBounds_toArray, List.set_cons_zero, List.set_cons_succ]
                refine wpAnyH_take (i := 13) (oi := ⟨some 51, _, _, _, _, _⟩) (v := ?_) rfl (by kernel_rfl) (by kernel_rfl) (by kernel_rfl) (fun _ _ _ h => h) (Or.inl ⟨by rfl, ?_⟩) (by assumption) ?_
                rotate_left
                · (intro w hSw; (try dsimp only at hSw); go_simp; (try (with_reducible rfl)))
                try simp only [Act.put, List.setIfInBounds_toArray, List.set_cons_zero, List.set_cons_succ]
                refine wpAnyH_take (i := 14) (oi := ⟨some 52, _, _, _, _, _⟩) (v := ?_) rfl (by kernel_rfl) (by kernel_rfl) (by kernel_rfl) (fun _ _ _ h => h) (Or.inl ⟨by rfl, ?_⟩) (by assumption) ?_
                rotate_left
                · (intro w hSw; (try dsimp only at hSw); go_simp; (try (with_reducible rfl)))
                try simp only [Act.put, List.setIfInBounds_toArray, List.set_cons_zero, List.set_cons_succ]
                refine wpAnyH_ready (rs := [12]) (by kernel_rfl) (by simp) ?_
                refine AllReadyH.cons (o := ⟨some 50, _, _, _, _, _⟩) rfl (fun K hK => ?_) AllReadyH.nil
                go_simp
                refine (HBO.out w4 d4).mono ?_; rintro e w' ⟨rfl, rfl⟩
                go_wp2_with fail
                refine hK.out _ _ (by (try dsimp only); simp [*]) (fun hHeld => ?_)
                clear hK K
                try simp only [List.setIfInBounds_toArray, List.set_cons_zero, List.set_cons_succ]
                refine wpAnyH_ready (rs := [15]) (by kernel_rfl) (by simp) ?_
                refine AllReadyH.cons (o := ⟨some 53, _, _, _, _, _⟩) rfl (fun K hK => ?_) AllReadyH.nil
                go_simp
                refine (HOP.out w4 d4).mono ?_; rintro e w5 ⟨rfl, b5⟩; have d5 : Below wr.heap.size wr w5 := btrans d4 b5; obtain ⟨k4, k5, k6, k7⟩ := HSK.out w5 d5
                go_wp2_with fail
                refine hK.out _ _ (by (try dsimp only); simp [*]) (fun hHeld => ?_)
                clear hK K
                try simp only [List.setIfInBounds_toArray, List.set_cons_zero, List.set_cons_succ]
                refine wpAnyH_take (i := 16) (oi := ⟨some 54, _, _, _, _, _⟩) (v := ?_) rfl (by kernel_rfl) (by kernel_rfl) (by kernel_rfl) (fun _ _ _ h => h) (Or.inl ⟨by rfl, ?_⟩) (by assumption) ?_
                rotate_left
                · (intro w hSw; (try dsimp only at hSw); go_simp; (try (with_reducible rfl)))
                try simp only [Act.put, List.setIfInBounds_toArray, List.set_cons_zero, List.set_cons_succ]
                refine wpAnyH_take (i := 17) (oi := ⟨some 55, _, _, _, _, _⟩) (v := ?_) rfl (by kernel_rfl) (by kernel_rfl) (by kernel_rfl) (fun _ _ _ h => h) (Or.inl ⟨by rfl, ?_⟩) (by assumption) ?_
                rotate_left
                · (intro w hSw; (try dsimp only at hSw); go_simp; (try (with_reducible rfl)))
                try simp only [Act.put, List.setIfInBounds_toArray, List.set_cons_zero, List.set_cons_succ]
                refine wpAnyH_take (i := 18) (oi := ⟨some 56, _, _, _, _, _⟩) (v := ?_) rfl (by kernel_rfl) (by kernel_rfl) (by kernel_rfl) (fun _ _ _ h => h) (Or.inl ⟨by rfl, ?_⟩) (by assumption) ?_
                rotate_left
                · (intro w hSw; (try dsimp only at hSw); go_simp; (try (with_reducible rfl)))
                try simp only [Act.put, List.setIfInBounds_toArray, List.set_cons_zero, List.set_cons_succ]
                refine wpAnyH_done (by kernel_rfl) ?_ _
                have HR5 := Lib.hid (own_below HR.out d5)
                have HF5 := Lib.hid (HF.out.below d5 HF.out.lt)
                have HG5 := Lib.hid (HG.out.below d5 HG.out.lt)
                have HB5 := Lib.hid (btrans HB.out d5)
                have HBO5 := Lib.hid (HBO.out w5.drew d5.drew)
                have HA5 := Lib.hid (HAF.out w5.drew d5.drew)
                clear k0 k1 k2 k3 k4 k5 k6 k7 b4 b5 d4 d5 hHeld p0 p1 m0 m1 y0 y1 q6 HR HF HG HB
                obtain ⟨m0, m1, y0, y1⟩ := HF5.out.two
                go_wp2_with fail
                go_region_with (first
                  | (go_at_call 116; (with_reducible refine HBO5.out.mono ?_); rintro e w' ⟨rfl, rfl⟩)
                  | (go_at_call 118; (with_reducible refine HA5.out.mono ?_); rintro e w6 ⟨rfl, b6⟩; have d6 : Below w5.heap.size w5 w6 := btrans (Below.refl _ _).drew b6; obtain ⟨j0, j1, z0, z1⟩ := (HF5.out.below d6 HF5.out.lt).two))
                all_goals
                  have HR6 := Lib.hid (own_below HR5.out d6)
                  have HF6 := Lib.hid (HF5.out.below d6 HF5.out.lt)
                  have HG6 := Lib.hid (HG5.out.below d6 HG5.out.lt)
                  have HB6 := Lib.hid (btrans HB5.out d6)
                  simp only [← HS1.out]
                  have HF7 : Hid (Blk ((w6.setCell ⟨w2.heap.size, 0, none⟩ (.int .u64 ((stF l n x rows (k + 1)).1 : Int))).setCell ⟨w2.heap.size, 1, none⟩ (.int .u64 ((stF l n x rows (k + 1)).2 : Int))) w2.heap.size 91 #[.int .u64 ((stF l n x rows (k + 1)).1 : Int), .int .u64 ((stF l n x rows (k + 1)).2 : Int)]) := by
                    have h_ := (HF6.out.set_ 0 (.int .u64 ((stF l n x rows (k + 1)).1 : Int))).set_ 1 (.int .u64 ((stF l n x rows (k + 1)).2 : Int))
                    show Blk _ _ _ _
                    simpa using h_
                  have HG7 := Lib.hid ((HG6.out.far (p := ⟨w2.heap.size, 0, none⟩) (by have := HG2.out.lt; show w.heap.size ≠ w2.heap.size; omega) (.int .u64 ((stF l n x rows (k + 1)).1 : Int))).far (p := ⟨w2.heap.size, 1, none⟩) (by have := HG2.out.lt; show w.heap.size ≠ w2.heap.size; omega) (.int .u64 ((stF l n x rows (k + 1)).2 : Int)))
                  have hne7 : (Value.slice A4 (frL l n x rows k).length c4).ownBlock = none ∨ (Value.slice A4 (frL l n x rows k).length c4).ownBlock ≠ some w2.heap.size := by
                    cases hv : (Value.slice A4 (frL l n x rows k).length c4).ownBlock with
                    | none => exact .inl rfl
                    | some q => exact .inr fun e => by cases e; have := (HR6.out.lt _ hv).1; omega
                  have HR7 := Lib.hid (HR6.out.kept (gset (gset (World.grownBy.refl w6 (some w2.heap.size)) 0 (.int .u64 ((stF l n x rows (k + 1)).1 : Int))) 1 (.int .u64 ((stF l n x rows (k + 1)).2 : Int))) hne7)
                  have HB7 := Lib.hid ((HB6.out.setCell (p := ⟨w2.heap.size, 0, none⟩) (Nat.le_refl _) (.int .u64 ((stF l n x rows (k + 1)).1 : Int))).setCell (p := ⟨w2.heap.size, 1, none⟩) (Nat.le_refl _) (.int .u64 ((stF l n x rows (k + 1)).2 : Int)))
                  have HSZF := Lib.hid HF7.out.lt
                  have HFS := Lib.hid (frL_succ l n x rows k)
                  clear HR6 HF6 HG6 HB6 hne7 m0 m1 y0 y1 j0 j1 z0 z1 b6 d6
                  generalize (w6.setCell ⟨w2.heap.size, 0, none⟩ (.int .u64 ((stF l n x rows (k + 1)).1 : Int))).setCell ⟨w2.heap.size, 1, none⟩ (.int .u64 ((stF l n x rows (k + 1)).2 : Int)) = w7 at *
                  have hlt7 := HSZF.out
                  obtain ⟨m0, m1, y0, y1⟩ := HF7.out.two
                  go_wp2_with
                    (at_builtin
                     refine wpList_append_own _ rfl _ _ 83 rfl (w2.heap.size + 1) 91 i0 (.agg #[.int .u64 0, .int .u64 0]) 2 16 Try.underlying83 hi hz0 hz1 hz2 rfl (by decide) _ _ _ rfl (HR7.out.alloc _) ⟨w7.heap.size, 0, none⟩ 1 1 [.int .u64 ((stF l n x rows (k + 1)).1 : Int), .int .u64 ((stF l n x rows (k + 1)).2 : Int)] rfl rfl (cell_two_new _ _ _ _) (fun x hx => by simp at hx; rcases hx with rfl | rfl <;> rfl) (by unfold maxLen; omega) (by omega) (by simp; omega) ?_
                     intro v2 w8 hown2 hgrow2 _)
                  have hne8 : ∀ q, q < w2.heap.size + 1 → some q ≠ (Value.slice A4 (frL l n x rows k).length c4).ownBlock := fun q hq e => by have := (HR7.out.lt q e.symm).1; omega
                  have HF8 := Lib.hid ((HF7.out.alloc (.cells #[.int .u64 ((stF l n x rows (k + 1)).1 : Int), .int .u64 ((stF l n x rows (k + 1)).2 : Int)] 91)).grown hgrow2 (hne8 _ (by omega)))
                  have HG8 := Lib.hid ((HG7.out.alloc (.cells #[.int .u64 ((stF l n x rows (k + 1)).1 : Int), .int .u64 ((stF l n x rows (k + 1)).2 : Int)] 91)).grown hgrow2 (hne8 _ (by have := HG2.out.lt; omega)))
                  obtain ⟨hown3, hB8⟩ := pushF HR7.out hown2 hgrow2 (by omega)
                  rw [← HFS.out] at hown3
                  have HR8 := Lib.hid hown3
                  have HB8 := Lib.hid (HB7.out.trans (hB8.mono (by omega)))
                  clear hown2 hgrow2 hown3 hB8 hne8 hfl8
                  go_roundg g2
                  case measure => omega
                  case rel => exact ⟨k + 1, _, rfl, by omega, by go_num, HOKN, HR8.out, HF8.out, HG8.out, HB8.out⟩
              · have d1 : ((qq : Int) != 0) = true := by simp; omega
                have d2 : (qq != 0) = true := by simpa using hap
                have HNN : Hid (¬ PlanP (n : Int) l (x : Int) d rows) := HNP.out fun h => hap (HAN.out.2 (HRP.out.1 h).2.2)
                go_wp2_with fail
                refine wp_region_held_drew (S := (fun W : World => W.cell? ⟨w.heap.size, 0, none⟩ = some (.int .i64 (n : Int)) ∧ W.cell? ⟨w.heap.size, 1, none⟩ = some (.slice A l.length c) ∧ W.cell? ⟨w2.heap.size, 0, none⟩ = some (.int .u64 ((stF l n x rows k).1 : Int)) ∧ W.cell? ⟨w2.heap.size, 1, none⟩ = some (.int .u64 ((stF l n x rows k).2 : Int)))) (by kernel_rfl) (by (try dsimp only); simp [*]) (fun hHeld => ?_)
                change wpAnyH _ _ _ _ _ _ #[false, false, false, false, false, false, false, false, false, false, false, false, false, false, false, false, false, false, false] _ _
                refine wpAnyH_take (i := 0) (oi := ⟨some 38, _, _, _, _, _⟩) (v := ?_) rfl (by kernel_rfl) (by kernel_rfl) (by kernel_rfl) (fun _ _ _ h => h) (Or.inl ⟨by rfl, ?_⟩) (by assumption) ?_
                rotate_left
                · (intro w hSw; (try dsimp only at hSw); go_simp; (try (with_reducible rfl)))
                try simp only [Act.put, List.setIfInBounds_toArray, List.set_cons_zero, List.set_cons_succ]
                refine wpAnyH_take (i := 1) (oi := ⟨some 39, _, _, _, _, _⟩) (v := ?_) rfl (by kernel_rfl) (by kernel_rfl) (by kernel_rfl) (fun _ _ _ h => h) (Or.inl ⟨by rfl, ?_⟩) (by assumption) ?_
                rotate_left
                · (intro w hSw; (try dsimp only at hSw); go_simp; (try (with_reducible rfl)))
                try simp only [Act.put, List.setIfInBounds_toArray, List.set_cons_zero, List.set_cons_succ]
                refine wpAnyH_take (i := 2) (oi := ⟨some 40, _, _, _, _, _⟩) (v := ?_) rfl (by kernel_rfl) (by kernel_rfl) (by kernel_rfl) (fun _ _ _ h => h) (Or.inl ⟨by rfl, ?_⟩) (by assumption) ?_
                rotate_left
                · (intro w hSw; (try dsimp only at hSw); go_simp; (try (with_reducible rfl)))
                try simp only [Act.put, List.setIfInBounds_toArray, List.set_cons_zero, List.set_cons_succ]
                refine wpAnyH_take (i := 3) (oi := ⟨some 41, _, _, _, _, _⟩) (v := ?_) rfl (by kernel_rfl) (by kernel_rfl) (by kernel_rfl) (fun _ _ _ h => h) (Or.inl ⟨by rfl, ?_⟩) (by assumption) ?_
                rotate_left
                · (intro w hSw; (try dsimp only at hSw); go_simp; (try (with_reducible rfl)))
                try simp only [Act.put, List.setIfInBounds_toArray, List.set_cons_zero, List.set_cons_succ]
                refine wpAnyH_take (i := 4) (oi := ⟨some 42, _, _, _, _, _⟩) (v := ?_) rfl (by kernel_rfl) (by kernel_rfl) (by kernel_rfl) (fun _ _ _ h => h) (Or.inl ⟨by rfl, ?_⟩) (by assumption) ?_
                rotate_left
                · (intro w hSw; (try dsimp only at hSw); go_simp; (try (with_reducible rfl)))
                try simp only [Act.put, List.setIfInBounds_toArray, List.set_cons_zero, List.set_cons_succ]
                refine wpAnyH_take (i := 5) (oi := ⟨some 43, _, _, _, _, _⟩) (v := ?_) rfl (by kernel_rfl) (by kernel_rfl) (by kernel_rfl) (fun _ _ _ h => h) (Or.inl ⟨by rfl, ?_⟩) (by assumption) ?_
                rotate_left
                · (intro w hSw; (try dsimp only at hSw); go_simp; (try (with_reducible rfl)))
                try simp only [Act.put, List.setIfInBounds_toArray, List.set_cons_zero, List.set_cons_succ]
                refine wpAnyH_take (i := 6) (oi := ⟨some 44, _, _, _, _, _⟩) (v := ?_) rfl (by kernel_rfl) (by kernel_rfl) (by kernel_rfl) (fun _ _ _ h => h) (Or.inl ⟨by rfl, ?_⟩) (by assumption) ?_
                rotate_left
                · (intro w hSw; (try dsimp only at hSw); go_simp; (try (with_reducible rfl)))
                try simp only [Act.put, List.setIfInBounds_toArray, List.set_cons_zero, List.set_cons_succ]
                refine wpAnyH_ready (rs := [7]) (by kernel_rfl) (by simp) ?_
                refine AllReadyH.cons (o := ⟨some 45, _, _, _, _, _⟩) rfl (fun K hK => ?_) AllReadyH.nil
                go_simp
                refine HHS.out.mono ?_; rintro e w4 ⟨rfl, b4⟩; have d4 : Below wr.heap.size wr w4 := btrans (Below.refl _ _).drew b4; obtain ⟨k0, k1, k2, k3⟩ := HSK.out w4 d4
                go_wp2_with fail
                refine hK.out _ _ (by (try dsimp only); simp [*]) (fun hHeld => ?_)
                clear hK K
                try simp only [List.setIfInBounds_toArray, List.set_cons_zero, List.set_cons_succ]
                refine wpAnyH_take (i := 8) (oi := ⟨some 46, _, _, _, _, _⟩) (v := ?_) rfl (by kernel_rfl) (by kernel_rfl) (by kernel_rfl) (fun _ _ _ h => h) (Or.inl ⟨by rfl, ?_⟩) (by assumption) ?_
                rotate_left
                · (intro w hSw; (try dsimp only at hSw); go_simp; (try (with_reducible rfl)))
                try simp only [Act.put, List.setIfInBounds_toArray, List.set_cons_zero, List.set_cons_succ]
                refine wpAnyH_take (i := 9) (oi := ⟨some 47, _, _, _, _, _⟩) (v := ?_) rfl (by kernel_rfl) (by kernel_rfl) (by kernel_rfl) (fun _ _ _ h => h) (Or.inl ⟨by rfl, ?_⟩) (by assumption) ?_
                rotate_left
                · (intro w hSw; (try dsimp only at hSw); go_simp; (try (with_reducible rfl)))
                try simp only [Act.put, List.setIfInBounds_toArray, List.set_cons_zero, List.set_cons_succ]
                refine wpAnyH_take (i := 10) (oi := ⟨some 48, _, _, _, _, _⟩) (v := ?_) rfl (by kernel_rfl) (by kernel_rfl) (by kernel_rfl) (fun _ _ _ h => h) (Or.inl ⟨by rfl, ?_⟩) (by assumption) ?_
                rotate_left
                · (intro w hSw; (try dsimp only at hSw); go_simp; (try (with_reducible rfl)))
                try simp only [Act.put, List.setIfInBounds_toArray, List.set_cons_zero, List.set_cons_succ]
                refine wpAnyH_take (i := 11) (oi := ⟨some 49, _, _, _, _, _⟩) (v := ?_) rfl (by kernel_rfl) (by kernel_rfl) (by kernel_rfl) (fun _ _ _ h => h) (Or.inl ⟨by rfl, ?_⟩) (by assumption) ?_
                rotate_left
                · (intro w hSw; (try dsimp only at hSw); go_simp; (try (with_reducible rfl)))
                try simp only [Act.put, List.setIfInBounds_toArray, List.set_cons_zero, List.set_cons_succ]
                refine wpAnyH_take (i := 13) (oi := ⟨some 51, _, _, _, _, _⟩) (v := ?_) rfl (by kernel_rfl) (by kernel_rfl) (by kernel_rfl) (fun _ _ _ h => h) (Or.inl ⟨by rfl, ?_⟩) (by assumption) ?_
                rotate_left
                · (intro w hSw; (try dsimp only at hSw); go_simp; (try (with_reducible rfl)))
                try simp only [Act.put, List.setIfInBounds_toArray, List.set_cons_zero, List.set_cons_succ]
                refine wpAnyH_take (i := 14) (oi := ⟨some 52, _, _, _, _, _⟩) (v := ?_) rfl (by kernel_rfl) (by kernel_rfl) (by kernel_rfl) (fun _ _ _ h => h) (Or.inl ⟨by rfl, ?_⟩) (by assumption) ?_
                rotate_left
                · (intro w hSw; (try dsimp only at hSw); go_simp; (try (with_reducible rfl)))
                try simp only [Act.put, List.setIfInBounds_toArray, List.set_cons_zero, List.set_cons_succ]
                refine wpAnyH_ready (rs := [12]) (by kernel_rfl) (by simp) ?_
                refine AllReadyH.cons (o := ⟨some 50, _, _, _, _, _⟩) rfl (fun K hK => ?_) AllReadyH.nil
                go_simp
                refine (HBO.out w4 d4).mono ?_; rintro e w' ⟨rfl, rfl⟩
                go_wp2_with fail
                refine hK.out _ _ (by (try dsimp only); simp [*]) (fun hHeld => ?_)
                clear hK K
                try simp only [List.setIfInBounds_toArray, List.set_cons_zero, List.set_cons_succ]
                refine wpAnyH_ready (rs := [15]) (by kernel_rfl) (by simp) ?_
                refine AllReadyH.cons (o := ⟨some 53, _, _, _, _, _⟩) rfl (fun K hK => ?_) AllReadyH.nil
                go_simp
                refine (HOP.out w4 d4).mono ?_; rintro e w5 ⟨rfl, b5⟩; have d5 : Below wr.heap.size wr w5 := btrans d4 b5; obtain ⟨k4, k5, k6, k7⟩ := HSK.out w5 d5
                go_wp2_with fail
                refine hK.out _ _ (by (try dsimp only); simp [*]) (fun hHeld => ?_)
                clear hK K
                try simp only [List.setIfInBounds_toArray, List.set_cons_zero, List.set_cons_succ]
                refine wpAnyH_take (i := 16) (oi := ⟨some 54, _, _, _, _, _⟩) (v := ?_) rfl (by kernel_rfl) (by kernel_rfl) (by kernel_rfl) (fun _ _ _ h => h) (Or.inl ⟨by rfl, ?_⟩) (by assumption) ?_
                rotate_left
                · (intro w hSw; (try dsimp only at hSw); go_simp; (try (with_reducible rfl)))
                try simp only [Act.put, List.setIfInBounds_toArray, List.set_cons_zero, List.set_cons_succ]
                refine wpAnyH_take (i := 17) (oi := ⟨some 55, _, _, _, _, _⟩) (v := ?_) rfl (by kernel_rfl) (by kernel_rfl) (by kernel_rfl) (fun _ _ _ h => h) (Or.inl ⟨by rfl, ?_⟩) (by assumption) ?_
                rotate_left
                · (intro w hSw; (try dsimp only at hSw); go_simp; (try (with_reducible rfl)))
                try simp only [Act.put, List.setIfInBounds_toArray, List.set_cons_zero, List.set_cons_succ]
                refine wpAnyH_take (i := 18) (oi := ⟨some 56, _, _, _, _, _⟩) (v := ?_) rfl (by kernel_rfl) (by kernel_rfl) (by kernel_rfl) (fun _ _ _ h => h) (Or.inl ⟨by rfl, ?_⟩) (by assumption) ?_
                rotate_left
                · (intro w hSw; (try dsimp only at hSw); go_simp; (try (with_reducible rfl)))
                try simp only [Act.put, List.setIfInBounds_toArray, List.set_cons_zero, List.set_cons_succ]
                refine wpAnyH_done (by kernel_rfl) ?_ _
                have HBF := Lib.hid (btrans HBW.out d5)
                clear k0 k1 k2 k3 k4 k5 k6 k7 b4 b5 d4 d5 hHeld p0 p1 m0 m1 y0 y1 q6
                go_wp2_with fail
                go_ret2
                exact ⟨.inr ⟨HNN.out, rfl⟩, HBF.out⟩
            · rw [okG_no hso] at HHS
              have HNN : Hid (¬ PlanP (n : Int) l (x : Int) d rows) := HNP.out fun h => hso (HRP.out.1 h).2.1
              clear hso
              go_wp2_with fail
              refine wp_region_held_drew (S := (fun W : World => W.cell? ⟨w.heap.size, 0, none⟩ = some (.int .i64 (n : Int)) ∧ W.cell? ⟨w.heap.size, 1, none⟩ = some (.slice A l.length c) ∧ W.cell? ⟨w2.heap.size, 0, none⟩ = some (.int .u64 ((stF l n x rows k).1 : Int)) ∧ W.cell? ⟨w2.heap.size, 1, none⟩ = some (.int .u64 ((stF l n x rows k).2 : Int)))) (by kernel_rfl) (by (try dsimp only); simp [*]) (fun hHeld => ?_)
              change wpAnyH _ _ _ _ _ _ #[false, false, false, false, false, false, false, false, false, false, false, false, false, false, false, false, false, false, false] _ _
              refine wpAnyH_take (i := 0) (oi := ⟨some 38, _, _, _, _, _⟩) (v := ?_) rfl (by kernel_rfl) (by kernel_rfl) (by kernel_rfl) (fun _ _ _ h => h) (Or.inl ⟨by rfl, ?_⟩) (by assumption) ?_
              rotate_left
              · (intro w hSw; (try dsimp only at hSw); go_simp; (try (with_reducible rfl)))
              try simp only [Act.put, List.setIfInBounds_toArray, List.set_cons_zero, List.set_cons_succ]
              refine wpAnyH_take (i := 1) (oi := ⟨some 39, _, _, _, _, _⟩) (v := ?_) rfl (by kernel_rfl) (by kernel_rfl) (by kernel_rfl) (fun _ _ _ h => h) (Or.inl ⟨by rfl, ?_⟩) (by assumption) ?_
              rotate_left
              · (intro w hSw; (try dsimp only at hSw); go_simp; (try (with_reducible rfl)))
              try simp only [Act.put, List.setIfInBounds_toArray, List.set_cons_zero, List.set_cons_succ]
              refine wpAnyH_take (i := 2) (oi := ⟨some 40, _, _, _, _, _⟩) (v := ?_) rfl (by kernel_rfl) (by kernel_rfl) (by kernel_rfl) (fun _ _ _ h => h) (Or.inl ⟨by rfl, ?_⟩) (by assumption) ?_
              rotate_left
              · (intro w hSw; (try dsimp only at hSw); go_simp; (try (with_reducible rfl)))
              try simp only [Act.put, List.setIfInBounds_toArray, List.set_cons_zero, List.set_cons_succ]
              refine wpAnyH_take (i := 3) (oi := ⟨some 41, _, _, _, _, _⟩) (v := ?_) rfl (by kernel_rfl) (by kernel_rfl) (by kernel_rfl) (fun _ _ _ h => h) (Or.inl ⟨by rfl, ?_⟩) (by assumption) ?_
              rotate_left
              · (intro w hSw; (try dsimp only at hSw); go_simp; (try (with_reducible rfl)))
              try simp only [Act.put, List.setIfInBounds_toArray, List.set_cons_zero, List.set_cons_succ]
              refine wpAnyH_take (i := 4) (oi := ⟨some 42, _, _, _, _, _⟩) (v := ?_) rfl (by kernel_rfl) (by kernel_rfl) (by kernel_rfl) (fun _ _ _ h => h) (Or.inl ⟨by rfl, ?_⟩) (by assumption) ?_
              rotate_left
              · (intro w hSw; (try dsimp only at hSw); go_simp; (try (with_reducible rfl)))
              try simp only [Act.put, List.setIfInBounds_toArray, List.set_cons_zero, List.set_cons_succ]
              refine wpAnyH_take (i := 5) (oi := ⟨some 43, _, _, _, _, _⟩) (v := ?_) rfl (by kernel_rfl) (by kernel_rfl) (by kernel_rfl) (fun _ _ _ h => h) (Or.inl ⟨by rfl, ?_⟩) (by assumption) ?_
              rotate_left
              · (intro w hSw; (try dsimp only at hSw); go_simp; (try (with_reducible rfl)))
              try simp only [Act.put, List.setIfInBounds_toArray, List.set_cons_zero, List.set_cons_succ]
              refine wpAnyH_take (i := 6) (oi := ⟨some 44, _, _, _, _, _⟩) (v := ?_) rfl (by kernel_rfl) (by kernel_rfl) (by kernel_rfl) (fun _ _ _ h => h) (Or.inl ⟨by rfl, ?_⟩) (by assumption) ?_
              rotate_left
              · (intro w hSw; (try dsimp only at hSw); go_simp; (try (with_reducible rfl)))
              try simp only [Act.put, List.setIfInBounds_toArray, List.set_cons_zero, List.set_cons_succ]
              refine wpAnyH_ready (rs := [7]) (by kernel_rfl) (by simp) ?_
              refine AllReadyH.cons (o := ⟨some 45, _, _, _, _, _⟩) rfl (fun K hK => ?_) AllReadyH.nil
              go_simp
              refine HHS.out.mono ?_; rintro e w4 ⟨rfl, b4⟩; have d4 : Below wr.heap.size wr w4 := btrans (Below.refl _ _).drew b4; obtain ⟨k0, k1, k2, k3⟩ := HSK.out w4 d4
              go_wp2_with fail
              refine hK.out _ _ (by (try dsimp only); simp [*]) (fun hHeld => ?_)
              clear hK K
              try simp only [List.setIfInBounds_toArray, List.set_cons_zero, List.set_cons_succ]
              refine wpAnyH_take (i := 8) (oi := ⟨some 46, _, _, _, _, _⟩) (v := ?_) rfl (by kernel_rfl) (by kernel_rfl) (by kernel_rfl) (fun _ _ _ h => h) (Or.inl ⟨by rfl, ?_⟩) (by assumption) ?_
              rotate_left
              · (intro w hSw; (try dsimp only at hSw); go_simp; (try (with_reducible rfl)))
              try simp only [Act.put, List.setIfInBounds_toArray, List.set_cons_zero, List.set_cons_succ]
              refine wpAnyH_take (i := 9) (oi := ⟨some 47, _, _, _, _, _⟩) (v := ?_) rfl (by kernel_rfl) (by kernel_rfl) (by kernel_rfl) (fun _ _ _ h => h) (Or.inl ⟨by rfl, ?_⟩) (by assumption) ?_
              rotate_left
              · (intro w hSw; (try dsimp only at hSw); go_simp; (try (with_reducible rfl)))
              try simp only [Act.put, List.setIfInBounds_toArray, List.set_cons_zero, List.set_cons_succ]
              refine wpAnyH_take (i := 10) (oi := ⟨some 48, _, _, _, _, _⟩) (v := ?_) rfl (by kernel_rfl) (by kernel_rfl) (by kernel_rfl) (fun _ _ _ h => h) (Or.inl ⟨by rfl, ?_⟩) (by assumption) ?_
              rotate_left
              · (intro w hSw; (try dsimp only at hSw); go_simp; (try (with_reducible rfl)))
              try simp only [Act.put, List.setIfInBounds_toArray, List.set_cons_zero, List.set_cons_succ]
              refine wpAnyH_take (i := 11) (oi := ⟨some 49, _, _, _, _, _⟩) (v := undef) rfl (by kernel_rfl) (by kernel_rfl) (by kernel_rfl) (fun _ _ _ h => h) (Or.inr ⟨by rfl, rfl⟩) (by assumption) ?_
              try simp only [Act.put, List.setIfInBounds_toArray, List.set_cons_zero, List.set_cons_succ]
              refine wpAnyH_take (i := 12) (oi := ⟨some 50, _, _, _, _, _⟩) (v := undef) rfl (by kernel_rfl) (by kernel_rfl) (by kernel_rfl) (fun _ _ _ h => h) (Or.inr ⟨by rfl, rfl⟩) (by assumption) ?_
              try simp only [Act.put, List.setIfInBounds_toArray, List.set_cons_zero, List.set_cons_succ]
              refine wpAnyH_take (i := 13) (oi := ⟨some 51, _, _, _, _, _⟩) (v := undef) rfl (by kernel_rfl) (by kernel_rfl) (by kernel_rfl) (fun _ _ _ h => h) (Or.inr ⟨by rfl, rfl⟩) (by assumption) ?_
              try simp only [Act.put, List.setIfInBounds_toArray, List.set_cons_zero, List.set_cons_succ]
              refine wpAnyH_take (i := 14) (oi := ⟨some 52, _, _, _, _, _⟩) (v := undef) rfl (by kernel_rfl) (by kernel_rfl) (by kernel_rfl) (fun _ _ _ h => h) (Or.inr ⟨by rfl, rfl⟩) (by assumption) ?_
              try simp only [Act.put, List.setIfInBounds_toArray, List.set_cons_zero, List.set_cons_succ]
              refine wpAnyH_take (i := 15) (oi := ⟨some 53, _, _, _, _, _⟩) (v := undef) rfl (by kernel_rfl) (by kernel_rfl) (by kernel_rfl) (fun _ _ _ h => h) (Or.inr ⟨by rfl, rfl⟩) (by assumption) ?_
              try simp only [Act.put, List.setIfInBounds_toArray, List.set_cons_zero, List.set_cons_succ]
              refine wpAnyH_take (i := 16) (oi := ⟨some 54, _, _, _, _, _⟩) (v := undef) rfl (by kernel_rfl) (by kernel_rfl) (by kernel_rfl) (fun _ _ _ h => h) (Or.inr ⟨by rfl, rfl⟩) (by assumption) ?_
              try simp only [Act.put, List.setIfInBounds_toArray, List.set_cons_zero, List.set_cons_succ]
              refine wpAnyH_take (i := 17) (oi := ⟨some 55, _, _, _, _, _⟩) (v := undef) rfl (by kernel_rfl) (by kernel_rfl) (by kernel_rfl) (fun _ _ _ h => h) (Or.inr ⟨by rfl, rfl⟩) (by assumption) ?_
              try simp only [Act.put, List.setIfInBounds_toArray, List.set_cons_zero, List.set_cons_succ]
              refine wpAnyH_take (i := 18) (oi := ⟨some 56, _, _, _, _, _⟩) (v := ?_) rfl (by kernel_rfl) (by kernel_rfl) (by kernel_rfl) (fun _ _ _ h => h) (Or.inl ⟨by rfl, ?_⟩) (by assumption) ?_
              rotate_left
              · (intro w hSw; (try dsimp only at hSw); go_simp; (try (with_reducible rfl)))
              try simp only [Act.put, List.setIfInBounds_toArray, List.set_cons_zero, List.set_cons_succ]
              refine wpAnyH_done (by kernel_rfl) ?_ _
              have HBF := Lib.hid (btrans HBW.out d4)
              clear k0 k1 k2 k3 b4 d4 hHeld p0 p1 m0 m1 y0 y1 q6
              go_wp2_with fail
              go_ret2
              exact ⟨.inr ⟨HNN.out, rfl⟩, HBF.out⟩
          · have hld' : d < (r.length : Int) := by omega
            have hdd : decide (d < (r.length : Int)) = true := decide_eq_true hld'
            have HNN : Hid (¬ PlanP (n : Int) l (x : Int) d rows) := HNP.out fun h => hld (HRP.out.1 h).1
            have HBF := Lib.hid HBW.out.drew
            go_wp2_with fail
            refine wp_region_held_drew (S := (fun W : World => W.cell? ⟨w.heap.size, 0, none⟩ = some (.int .i64 (n : Int)) ∧ W.cell? ⟨w.heap.size, 1, none⟩ = some (.slice A l.length c) ∧ W.cell? ⟨w2.heap.size, 0, none⟩ = some (.int .u64 ((stF l n x rows k).1 : Int)) ∧ W.cell? ⟨w2.heap.size, 1, none⟩ = some (.int .u64 ((stF l n x rows k).2 : Int)))) (by kernel_rfl) (by (try dsimp only); simp [*]) (fun hHeld => ?_)
            change wpAnyH _ _ _ _ _ _ #[false, false, false, false, false, false, false, false, false, false, false, false, false, false, false, false, false, false, false] _ _
            refine wpAnyH_take (i := 0) (oi := ⟨some 38, _, _, _, _, _⟩) (v := ?_) rfl (by kernel_rfl) (by kernel_rfl) (by kernel_rfl) (fun _ _ _ h => h) (Or.inl ⟨by rfl, ?_⟩) (by assumption) ?_
            rotate_left
            · (intro w hSw; (try dsimp only at hSw); go_simp; (try (with_reducible rfl)))
            try simp only [Act.put, List.setIfInBounds_toArray, List.set_cons_zero, List.set_cons_succ]
            refine wpAnyH_take (i := 1) (oi := ⟨some 39, _, _, _, _, _⟩) (v := ?_) rfl (by kernel_rfl) (by kernel_rfl) (by kernel_rfl) (fun _ _ _ h => h) (Or.inl ⟨by rfl, ?_⟩) (by assumption) ?_
            rotate_left
            · (intro w hSw; (try dsimp only at hSw); go_simp; (try (with_reducible rfl)))
            try simp only [Act.put, List.setIfInBounds_toArray, List.set_cons_zero, List.set_cons_succ]
            refine wpAnyH_take (i := 2) (oi := ⟨some 40, _, _, _, _, _⟩) (v := ?_) rfl (by kernel_rfl) (by kernel_rfl) (by kernel_rfl) (fun _ _ _ h => h) (Or.inl ⟨by rfl, ?_⟩) (by assumption) ?_
            rotate_left
            · (intro w hSw; (try dsimp only at hSw); go_simp; (try (with_reducible rfl)))
            try simp only [Act.put, List.setIfInBounds_toArray, List.set_cons_zero, List.set_cons_succ]
            refine wpAnyH_take (i := 3) (oi := ⟨some 41, _, _, _, _, _⟩) (v := ?_) rfl (by kernel_rfl) (by kernel_rfl) (by kernel_rfl) (fun _ _ _ h => h) (Or.inl ⟨by rfl, ?_⟩) (by assumption) ?_
            rotate_left
            · (intro w hSw; (try dsimp only at hSw); go_simp; (try (with_reducible rfl)))
            try simp only [Act.put, List.setIfInBounds_toArray, List.set_cons_zero, List.set_cons_succ]
            refine wpAnyH_take (i := 4) (oi := ⟨some 42, _, _, _, _, _⟩) (v := ?_) rfl (by kernel_rfl) (by kernel_rfl) (by kernel_rfl) (fun _ _ _ h => h) (Or.inl ⟨by rfl, ?_⟩) (by assumption) ?_
            rotate_left
            · (intro w hSw; (try dsimp only at hSw); go_simp; (try (with_reducible rfl)))
            try simp only [Act.put, List.setIfInBounds_toArray, List.set_cons_zero, List.set_cons_succ]
            refine wpAnyH_take (i := 5) (oi := ⟨some 43, _, _, _, _, _⟩) (v := undef) rfl (by kernel_rfl) (by kernel_rfl) (by kernel_rfl) (fun _ _ _ h => h) (Or.inr ⟨by rfl, rfl⟩) (by assumption) ?_
            try simp only [Act.put, List.setIfInBounds_toArray, List.set_cons_zero, List.set_cons_succ]
            refine wpAnyH_take (i := 6) (oi := ⟨some 44, _, _, _, _, _⟩) (v := undef) rfl (by kernel_rfl) (by kernel_rfl) (by kernel_rfl) (fun _ _ _ h => h) (Or.inr ⟨by rfl, rfl⟩) (by assumption) ?_
            try simp only [Act.put, List.setIfInBounds_toArray, List.set_cons_zero, List.set_cons_succ]
            refine wpAnyH_take (i := 7) (oi := ⟨some 45, _, _, _, _, _⟩) (v := undef) rfl (by kernel_rfl) (by kernel_rfl) (by kernel_rfl) (fun _ _ _ h => h) (Or.inr ⟨by rfl, rfl⟩) (by assumption) ?_
            try simp only [Act.put, List.setIfInBounds_toArray, List.set_cons_zero, List.set_cons_succ]
            refine wpAnyH_take (i := 8) (oi := ⟨some 46, _, _, _, _, _⟩) (v := undef) rfl (by kernel_rfl) (by kernel_rfl) (by kernel_rfl) (fun _ _ _ h => h) (Or.inr ⟨by rfl, rfl⟩) (by assumption) ?_
            try simp only [Act.put, List.setIfInBounds_toArray, List.set_cons_zero, List.set_cons_succ]
            refine wpAnyH_take (i := 9) (oi := ⟨some 47, _, _, _, _, _⟩) (v := ?_) rfl (by kernel_rfl) (by kernel_rfl) (by kernel_rfl) (fun _ _ _ h => h) (Or.inl ⟨by rfl, ?_⟩) (by assumption) ?_
            rotate_left
            · (intro w hSw; (try dsimp only at hSw); go_simp; (try (with_reducible rfl)))
            try simp only [Act.put, List.setIfInBounds_toArray, List.set_cons_zero, List.set_cons_succ]
            refine wpAnyH_take (i := 10) (oi := ⟨some 48, _, _, _, _, _⟩) (v := ?_) rfl (by kernel_rfl) (by kernel_rfl) (by kernel_rfl) (fun _ _ _ h => h) (Or.inl ⟨by rfl, ?_⟩) (by assumption) ?_
            rotate_left
            · (intro w hSw; (try dsimp only at hSw); go_simp; (try (with_reducible rfl)))
            try simp only [Act.put, List.setIfInBounds_toArray, List.set_cons_zero, List.set_cons_succ]
            refine wpAnyH_take (i := 11) (oi := ⟨some 49, _, _, _, _, _⟩) (v := undef) rfl (by kernel_rfl) (by kernel_rfl) (by kernel_rfl) (fun _ _ _ h => h) (Or.inr ⟨by rfl, rfl⟩) (by assumption) ?_
            try simp only [Act.put, List.setIfInBounds_toArray, List.set_cons_zero, List.set_cons_succ]
            refine wpAnyH_take (i := 12) (oi := ⟨some 50, _, _, _, _, _⟩) (v := undef) rfl (by kernel_rfl) (by kernel_rfl) (by kernel_rfl) (fun _ _ _ h => h) (Or.inr ⟨by rfl, rfl⟩) (by assumption) ?_
            try simp only [Act.put, List.setIfInBounds_toArray, List.set_cons_zero, List.set_cons_succ]
            refine wpAnyH_take (i := 13) (oi := ⟨some 51, _, _, _, _, _⟩) (v := undef) rfl (by kernel_rfl) (by kernel_rfl) (by kernel_rfl) (fun _ _ _ h => h) (Or.inr ⟨by rfl, rfl⟩) (by assumption) ?_
            try simp only [Act.put, List.setIfInBounds_toArray, List.set_cons_zero, List.set_cons_succ]
            refine wpAnyH_take (i := 14) (oi := ⟨some 52, _, _, _, _, _⟩) (v := undef) rfl (by kernel_rfl) (by kernel_rfl) (by kernel_rfl) (fun _ _ _ h => h) (Or.inr ⟨by rfl, rfl⟩) (by assumption) ?_
            try simp only [Act.put, List.setIfInBounds_toArray, List.set_cons_zero, List.set_cons_succ]
            refine wpAnyH_take (i := 15) (oi := ⟨some 53, _, _, _, _, _⟩) (v := undef) rfl (by kernel_rfl) (by kernel_rfl) (by kernel_rfl) (fun _ _ _ h => h) (Or.inr ⟨by rfl, rfl⟩) (by assumption) ?_
            try simp only [Act.put, List.setIfInBounds_toArray, List.set_cons_zero, List.set_cons_succ]
            refine wpAnyH_take (i := 16) (oi := ⟨some 54, _, _, _, _, _⟩) (v := undef) rfl (by kernel_rfl) (by kernel_rfl) (by kernel_rfl) (fun _ _ _ h => h) (Or.inr ⟨by rfl, rfl⟩) (by assumption) ?_
            try simp only [Act.put, List.setIfInBounds_toArray, List.set_cons_zero, List.set_cons_succ]
            refine wpAnyH_take (i := 17) (oi := ⟨some 55, _, _, _, _, _⟩) (v := undef) rfl (by kernel_rfl) (by kernel_rfl) (by kernel_rfl) (fun _ _ _ h => h) (Or.inr ⟨by rfl, rfl⟩) (by assumption) ?_
            try simp only [Act.put, List.setIfInBounds_toArray, List.set_cons_zero, List.set_cons_succ]
            refine wpAnyH_take (i := 18) (oi := ⟨some 56, _, _, _, _, _⟩) (v := ?_) rfl (by kernel_rfl) (by kernel_rfl) (by kernel_rfl) (fun _ _ _ h => h) (Or.inl ⟨by rfl, ?_⟩) (by assumption) ?_
            rotate_left
            · (intro w hSw; (try dsimp only at hSw); go_simp; (try (with_reducible rfl)))
            try simp only [Act.put, List.setIfInBounds_toArray, List.set_cons_zero, List.set_cons_succ]
            refine wpAnyH_done (by kernel_rfl) ?_ _
            clear hHeld p0 p1 m0 m1 y0 y1 q6
            go_wp2_with fail
            go_ret2
            exact ⟨.inr ⟨HNN.out, rfl⟩, HBF.out⟩
    · have hr8' : (8 : Int) < (rows.length : Int) := by omega
      have HNO : Hid (¬ PlanP s l start d rows) := fun h => hr8 h.2.1
      clear hr8 hfp
      go_enter Try.func75, Try.ntmps75
      go_wp2_with fail
      refine HIF.out.mono ?_
      rintro e w1 ⟨rfl, b1⟩
      have HE1 := Lib.hid (btrans HB0.out b1)
      clear p0 p1 b1 HIF HB0 HG0
      go_wp2_with fail
      go_ret2
      exact ⟨.inr ⟨HNO.out, rfl⟩, HE1.out⟩
  · rw [okG_no hfp] at HIF
    have HNO : Hid (¬ PlanP s l start d rows) := fun h => hfp h.1
    clear hfp
    go_enter Try.func75, Try.ntmps75
    go_wp2_with fail
    refine HIF.out.mono ?_
    rintro e w1 ⟨rfl, b1⟩
    have HE1 := Lib.hid (btrans HB0.out b1)
    clear p0 p1 b1 HIF HB0 HG0
    go_wp2_with fail
    go_ret2
    exact ⟨.inr ⟨HNO.out, rfl⟩, HE1.out⟩
end Go.Proofs.Ytbbgbepemnmfdaa.fires
