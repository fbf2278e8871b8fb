/- The contracts of the model's l5Rests, l5Tree and TreewidthOf. -/
import Derived.Handy
import Derived.Test.YtphlpipbhaiijaaTreeI
import Derived.Test.YtphlpipbhaiijaaLater
import Derived.Test.YtphlpipbhaiijaaMinMax
import Derived.Test.YtphlpipbhaiijaaSets
import Derived.Deep.DeepCutAuto
import Derived.Deep.RegionHeld3
namespace Go.Proofs.Ytphlpipbhaiijaa.costs
open Go.RowKit P2 words edges ints good adjs fns sets rets covs reach bags balls bitsI fronts minmax
set_option linter.unusedVariables false

def RsUp (n : Nat) (cost : Nat → Nat → Int) (g : Nat) (C : Nat → Int) : Prop :=
  (g ≤ 2 ^ n - 1 → C (2 ^ n - 1) = -1) ∧ (∀ c, g ≤ c → c < 2 ^ n - 1 → LcAt n cost C c) ∧ ∀ c, g ≤ c → c < 2 ^ n → -1 ≤ C c ∧ C c ≤ 100
def WtAt (n : Nat) (cost : Nat → Nat → Int) (C : Nat → Int) (c x : Nat) (b : Int) : Prop :=
  (b = -1 ∧ ∀ y, y < x → c.testBit y = true) ∨ ((∃ y, y < x ∧ y < n ∧ c.testBit y = false ∧ b = max (cost c y) (C (c ||| 2 ^ y))) ∧ ∀ y, y < x → c.testBit y = false → b ≤ max (cost c y) (C (c ||| 2 ^ y)))
theorem WtAt.start (n : Nat) (cost : Nat → Nat → Int) (C : Nat → Int) (c : Nat) : WtAt n cost C c 0 (-1) := .inl ⟨rfl, fun y h => by omega⟩
theorem WtAt.skip {n : Nat} {cost : Nat → Nat → Int} {C : Nat → Int} {c x : Nat} {b : Int} (h : WtAt n cost C c x b) (hb : c.testBit x = true) : WtAt n cost C c (x + 1) b := by
  rcases h with ⟨h1, h2⟩ | ⟨⟨y, h1, h2⟩, h3⟩
  · refine .inl ⟨h1, fun y hy => ?_⟩
    by_cases e : y = x
    · subst e; exact hb
    · exact h2 y (by omega)
  · refine .inr ⟨⟨y, by omega, h2⟩, fun z hz hzb => ?_⟩
    by_cases e : z = x
    · subst e; rw [hb] at hzb; cases hzb
    · exact h3 z (by omega) hzb
theorem WtAt.take {n : Nat} {cost : Nat → Nat → Int} {C : Nat → Int} {c x : Nat} {b : Int} (h : WtAt n cost C c x b) (hx : x < n) (hb : c.testBit x = false) (hl : b < 0 ∨ max (cost c x) (C (c ||| 2 ^ x)) < b) (hp : ∀ y, 0 ≤ cost c y) : WtAt n cost C c (x + 1) (max (cost c x) (C (c ||| 2 ^ x))) := by
  refine .inr ⟨⟨x, by omega, hx, hb, rfl⟩, fun z hz hzb => ?_⟩
  by_cases e : z = x
  · subst e; exact Int.le_refl _
  · rcases h with ⟨_, h2⟩ | ⟨⟨y, h1, h2, h4, h5⟩, h3⟩
    · rw [h2 z (by omega)] at hzb; cases hzb
    · have := h3 z (by omega) hzb
      have := hp y
      omega
theorem WtAt.keep {n : Nat} {cost : Nat → Nat → Int} {C : Nat → Int} {c x : Nat} {b : Int} (h : WtAt n cost C c x b) (hl0 : ¬ b < 0) (hl : ¬ max (cost c x) (C (c ||| 2 ^ x)) < b) : WtAt n cost C c (x + 1) b := by
  rcases h with ⟨h1, _⟩ | ⟨⟨y, h1, h2⟩, h3⟩
  · omega
  · refine .inr ⟨⟨y, by omega, h2⟩, fun z hz hzb => ?_⟩
    by_cases e : z = x
    · subst e; omega
    · exact h3 z (by omega) hzb
theorem RsUp.succ {n : Nat} {l : List Ed} {c : Nat} {C : Nat → Int} {b : Int} (hn : n ≤ 8) (h : RsUp n (costW l n) (c + 1) C) (hc : c < 2 ^ n) (hb : WtAt n (costW l n) C c n b) : RsUp n (costW l n) c (upd C c b) := by
  have hp := pow8 hn
  obtain ⟨h1, h2, h3⟩ := h
  have hor : ∀ y, y < n → c.testBit y = false → c < c ||| 2 ^ y ∧ c ||| 2 ^ y < 2 ^ n := fun y hy hb => ⟨or_gt (by omega) (by omega) hb, or_lt (by omega) hy⟩
  have hle : ∀ d, c + 1 ≤ d → d < 2 ^ n - 1 → LcAt n (costW l n) (upd C c b) d := fun d hd hd2 => by
    have hdo : ∀ y, y < n → d.testBit y = false → d ||| 2 ^ y ≠ c := fun y hy hb => by have := or_gt (x := y) (by omega : d < 256) (by omega) hb; omega
    obtain ⟨⟨x, hx, hxb, hC⟩, hl⟩ := h2 d hd hd2
    refine ⟨⟨x, hx, hxb, ?_⟩, fun y hy hby => ?_⟩
    · rw [upd_ne C b (by omega), upd_ne C b (hdo x hx hxb)]; exact hC
    · rw [upd_ne C b (by omega), upd_ne C b (hdo y hy hby)]; exact hl y hy hby
  by_cases e : c = 2 ^ n - 1
  · have hbv : b = -1 := by
      rcases hb with ⟨h4, _⟩ | ⟨⟨y, hy, _, hyb, _⟩, _⟩
      · exact h4
      · rw [e, Nat.testBit_two_pow_sub_one] at hyb
        simp at hyb; omega
    refine ⟨fun _ => by rw [← e, upd_at]; exact hbv, fun d hd hd2 => by omega, fun d hd hd2 => ?_⟩
    obtain rfl : d = c := by omega
    rw [upd_at]; omega
  · obtain ⟨z, hz, hzb⟩ := out_bit hn (by omega : c < 2 ^ n - 1)
    obtain ⟨⟨y, _, hy, hyb, hbv⟩, hmin⟩ : (∃ y, y < n ∧ y < n ∧ c.testBit y = false ∧ b = max (costW l n c y) (C (c ||| 2 ^ y))) ∧ ∀ y, y < n → c.testBit y = false → b ≤ max (costW l n c y) (C (c ||| 2 ^ y)) := by
      rcases hb with ⟨_, h4⟩ | h4
      · rw [h4 z hz] at hzb; cases hzb
      · exact h4
    have hy2 := hor y hy hyb
    have hy3 := h3 _ (by omega : c + 1 ≤ c ||| 2 ^ y) hy2.2
    have hy4 := costW_le l n hn c y
    refine ⟨fun _ => by rw [upd_ne C b (by omega)]; exact h1 (by omega), fun d hd hd2 => ?_, fun d hd hd2 => ?_⟩
    · by_cases e2 : d = c
      · subst e2
        refine ⟨⟨y, hy, hyb, ?_⟩, fun q hq hqb => ?_⟩
        · rw [upd_at, upd_ne C b (by omega)]; exact hbv
        · rw [upd_at, upd_ne C b (by have := hor q hq hqb; omega)]; exact hmin q hq hqb
      · exact hle d (by omega) hd2
    · by_cases e2 : d = c
      · subst e2; rw [upd_at]; omega
      · rw [upd_ne C b e2]; exact h3 d (by omega) hd2
theorem tw_rs {n : Nat} {l : List Ed} {C : Nat → Int} (hn : n ≤ 8) (h : RsUp n (costW l n) 0 C) : twV (n : Int) l = C 0 := by
  have e : twV (n : Int) l = leastV n (costW l n) (-1) := rfl
  rw [e]
  exact Least.is (lc_least hn (h.1 (by omega)) (fun c hc => h.2.1 c (by omega) hc) (h.2.2 0 (by omega) (Nat.two_pow_pos n)).1)
theorem gone_all {n c : Nat} (hc : c < 2 ^ n) : goneB (nw (bitB c) n) = bitB c := by
  funext z
  by_cases hz : z < n
  · exact gone_code hz
  · have h1 : bitB c z = false := Nat.testBit_lt_two_pow (Nat.lt_of_lt_of_le hc (Nat.pow_le_pow_right (by decide) (by omega)))
    rw [h1]
    unfold goneB
    rw [decide_eq_false_iff_not, mem_nw]
    rintro ⟨j, hj, _, e⟩
    omega
set_option maxHeartbeats 4000000 in
set_option maxRecDepth 100000 in
theorem l5Rests_any (n : Nat) (v : Value) (l : List Ed) (w : World) (h : Edges w v l) (hl : l.length ≤ 1048576) (hn : n ≤ 8) :
    Calls Try.prog 125 #[.agg #[.int .i64 (n : Int), v]] w fun e w' => ∃ A c C, e = .returned (.slice A (2 ^ n) c) ∧ w'.ownsRow w.heap.size 3 1 (.slice A (2 ^ n) c) (2 ^ n) (cellsI (rowF (2 ^ n) C)) ∧ RsUp n (costW l n) 0 C ∧ Below w.heap.size w w' := by
  obtain ⟨i0, hi, hz0, hz1, hz2⟩ := info_parts infoInt
  obtain ⟨A, c, rfl, -⟩ := h.form
  have hp := pow8 hn
  have hp0 := Nat.two_pow_pos n
  obtain ⟨N, hN⟩ : ∃ N, N = 2 ^ n := ⟨_, rfl⟩
  have hsh : IntKind.i64.wrap ((2 : Int) ^ n) = (N : Int) := by
    rw [hN, show ((2 : Int) ^ n) = ((2 ^ n : Nat) : Int) from by simp]
    exact IntWalk.i64_in _ (by omega)
  rw [← hN] at hp hp0 ⊢
  have HN := Lib.hid hN
  have H := Lib.hid h
  have hmk := fun (W : World) => run_make_rowN (P := Try.prog) 25 3 i0 (.int .i64 0) Try.underlying25 hi hz0 .i64 .i64 N N (Nat.le_refl _) (by rw [hz2]; omega) (by omega) W
  rw [hz1] at hmk
  simp only [Nat.mul_one] at hmk
  have hb0 : Below w.heap.size w ((w.alloc (.cells #[.int .i64 (n : Int), .slice A l.length c] 29)).alloc (.cells (madeCells #[.int .i64 0] N) 3)) := ((Below.refl _ _).alloc (Nat.le_refl _) _).alloc (by simp) _
  have HE0 := Lib.hid hb0
  have HG0 := Lib.hid ((Blk.new w 29 #[.int .i64 (n : Int), .slice A l.length c]).alloc (.cells (madeCells #[.int .i64 0] N) 3))
  have ho0 := World.ownsRow_lit (base := w.heap.size + 1) (e := 3) (size := 1) (w.alloc (.cells #[.int .i64 (n : Int), .slice A l.length c] 29)) (madeCells #[Value.int .i64 0] (N * 1)) N (by simp) (by unfold maxLen; omega) (size_madeCells _ _)
  rw [toList_madeCells_one, Nat.mul_one, World.size_alloc, show List.replicate N (Value.int .i64 0) = cellsI (rowF N (fun _ => 0)) from by rw [← rowF_const]; simp [cellsI]] at ho0
  have HO0 := Lib.hid ho0
  obtain ⟨p0, p1, -, -⟩ := (Blk.new w 29 #[.int .i64 (n : Int), .slice A l.length c]).two
  have hN2 : IntKind.i64.wrap ((N : Int) - 1) = (N : Int) - 1 := IntWalk.i64_in _ (by omega)
  have hn0 : (0 : Int) ≤ (n : Int) := by omega
  have hNp : (0 : Int) ≤ (N : Int) := by omega
  clear h hb0 ho0 hN
  go_enter Try.func125, Try.ntmps125
  go_wp2_with fail
  obtain ⟨w0, hw0⟩ : ∃ w0, w0 = ((w.alloc (.cells #[.int .i64 (n : Int), .slice A l.length c] 29)).alloc (.cells (madeCells #[.int .i64 0] N) 3)) := ⟨_, rfl⟩
  rw [← hw0] at HO0 HE0 HG0 ⊢
  clear hw0 p0 p1 hmk
  have hsz0 : w.heap.size + 1 ≤ w0.heap.size := by have := HG0.out.lt; omega
  go_loopg [4] N (fun g iv wr => ∃ C : Nat → Int, iv = .int .i64 ((g : Int) - 1) ∧ wr.ownsRow (w.heap.size + 1) 3 1 (.slice (some ⟨w.heap.size + 1, 0, none⟩) N N) N (cellsI (rowF N C)) ∧ Hid (RsUp n (costW l n) g C) ∧ Hid (g ≤ N) ∧ Below (w.heap.size + 1) w0 wr)
  case atStart => exact ⟨_, rfl, HO0.out, (by have e := HN.out; exact ⟨fun h_ => by omega, fun c h1 h2 => by omega, fun c h1 h2 => by omega⟩), Lib.hid (Nat.le_refl _), Below.refl _ _⟩
  case round =>
    clear HO0
    obtain ⟨C, rfl, hrow, hrs, hgN, hB⟩ := hrel
    have hgb := HG0.out.below hB (by omega)
    have hsz := hB.size
    obtain ⟨p0, p1, -, -⟩ := hgb.two
    cases gk with
    | zero =>
      have HR := Lib.hid (own_base hrow (by omega : w.heap.size ≤ w.heap.size + 1))
      have HB := Lib.hid (HE0.out.trans (hB.mono (by omega)))
      clear hrow hB hgb
      go_wp2_with fail
      go_ret
      exact ⟨_, _, C, rfl, HR.out, hrs.out, HB.out⟩
    | succ k =>
      have hkN : k < N := by have := hgN.out; omega
      rw [show (((k + 1 : Nat) : Int) - 1) = (k : Int) from by omega]
      have hk0 : (0 : Int) ≤ (k : Int) := by omega
      have hkN' : (k : Int) < (N : Int) := by omega
      have HBI := Lib.hid (l2Bits_any n k wr hn (by omega))
      have HR := Lib.hid hrow
      have HG := Lib.hid hgb
      have HB := Lib.hid hB
      clear hrow hgb hB
      go_wp2_with fail
      refine HBI.out.mono ?_
      rintro e w2 ⟨A5, c5, rfl, o5, b5⟩
      have HR2 := Lib.hid (own_below HR.out b5)
      have HB2 := Lib.hid (HB.out.trans (b5.mono (by omega)))
      have HS2 := Lib.hid (Reads.of_own o5)
      have HG2 := Lib.hid (HG0.out.below HB2.out (by omega))
      have hz2 := HB2.out.size
      clear b5 o5 HBI p0 p1 HR HB HG
      go_wp2_with fail
      go_loopg [6, 7] n (fun g bv xv wr => ∃ (x : Nat) (b : Int), x + g = n ∧ xv = .int .i64 (x : Int) ∧ bv = .int .i64 b ∧ Hid (WtAt n (costW l n) C k x b) ∧ Below w2.heap.size w2 wr)
      case atStart => exact ⟨0, -1, by omega, rfl, rfl, WtAt.start n _ C k, Below.refl _ _⟩
      case round =>
        obtain ⟨x, b, hxg, rfl, rfl, hbt, hB⟩ := hrel
        have hgb := HG2.out.below hB HG2.out.lt
        have hrow := own_below HR2.out hB
        obtain ⟨p0, p1, -, -⟩ := hgb.two
        cases gk with
        | zero =>
          obtain rfl : x = n := by omega
          have HUP := Lib.hid (RsUp.succ hn hrs.out (by have := HN.out; omega) hbt.out)
          have f1 := hrow.cellAt k (by omega)
          rw [cellsI_at (rowF_at hkN)] at f1
          have z1 := hrow.frozenAt k
          have HST := Lib.hid (hrow.stored k (.int .i64 b))
          have HB3 := Lib.hid ((HB2.out.trans (hB.mono (by omega))).setCell (p := ⟨w.heap.size + 1, k, none⟩) (Nat.le_refl _) (.int .i64 b))
          clear hrow hgb hB hbt hrs
          go_wp2_with fail
          go_roundg k
          case measure => omega
          case rel =>
            have h_ := HST.out.1
            rw [rowF_cells] at h_
            exact ⟨_, by go_num, h_, HUP, Lib.hid (by omega), HB3.out⟩
        | succ g4 =>
          have hlt : x < n := by omega
          have hlt' : (x : Int) < (n : Int) := by omega
          have hd : decide ((x : Int) ∈ nw (bitB k) n) = k.testBit x := gone_code hlt
          have HH := Lib.hid (l1Has_any _ (nw (bitB k) n) (x : Int) wr (show Ints _ _ _ from HS2.out.below hB) (by have := nw_len (bitB k) n; omega))
          rw [hd] at HH
          clear hd
          cases hbit : k.testBit x with
          | true =>
            have HP := Lib.hid (hbt.out.skip hbit)
            rw [hbit] at HH
            have HB := Lib.hid hB
            clear hbit hbt hrow hgb hB
            go_wp2_with fail
            refine HH.out.mono ?_
            rintro e w' ⟨rfl, rfl⟩
            go_wp2_with fail
            go_roundg g4
            case measure => omega
            case rel => exact ⟨x + 1, b, by omega, by go_num, rfl, HP, HB.out⟩
          | false =>
            rw [hbit] at HH
            have hNe := HN.out
            have hq1 := or_is (by omega : k < 256) (by omega : x < 8) hbit
            have hq2 := or_lt (n := n) (by omega : k < 2 ^ n) hlt
            rw [← hNe] at hq2
            have hPx := Nat.two_pow_pos x
            have hpx := pow8 (n := x) (by omega)
            have hsx0 : ((2 : Int) ^ x) = ((2 ^ x : Nat) : Int) := by simp
            have f2 := hrow.cellAt (k ||| 2 ^ x) (by omega)
            rw [cellsI_at (rowF_at hq2)] at f2
            have HTK := Lib.hid (fun (hl : b < 0 ∨ max (costW l n k x) (C (k ||| 2 ^ x)) < b) => hbt.out.take hlt hbit hl (costW_pos l n k))
            have HKP := Lib.hid (fun (h0 : ¬ b < 0) (hl : ¬ max (costW l n k x) (C (k ||| 2 ^ x)) < b) => WtAt.keep (x := x) hbt.out h0 hl)
            have HLA := Lib.hid (l5Later_any n x (nw (bitB k) n) (.slice A l.length c) (.slice A5 (nw (bitB k) n).length c5) l wr.drew (H.out.below (HE0.out.trans ((HB2.out.trans (hB.mono (by omega))).mono (by omega))).drew) hl (show Ints _ _ _ from HS2.out.below hB.drew) (by have := nw_len (bitB k) n; omega) hn hlt)
            rw [gone_all (by omega : k < 2 ^ n)] at HLA
            have HCW : Hid (costW l n k x = ((nw (laterB n l (bitB k) x) n).length : Int)) := rfl
            rw [HCW.out] at HTK HKP
            have HMO := Lib.hid (fun (a c : Int) (W' : World) => l1Most_any a c W')
            generalize k ||| 2 ^ x = q at *
            obtain ⟨P, hP⟩ : ∃ P, P = 2 ^ x := ⟨_, rfl⟩
            rw [← hP] at hq1 hPx hpx hsx0
            have hsx : IntKind.i64.wrap ((2 : Int) ^ x) = (P : Int) := by rw [hsx0]; exact IntWalk.i64_in _ (by omega)
            have hs1 : (k : Int) + (P : Int) = (q : Int) := by omega
            have hs3 : IntKind.i64.wrap (q : Int) = (q : Int) := IntWalk.i64_in _ (by omega)
            have hq3 : (q : Int) < (N : Int) := by omega
            have hq0 : (0 : Int) ≤ (q : Int) := by omega
            have HB := Lib.hid hB
            have HG := Lib.hid hgb
            clear hbit hbt hrow hgb hB hP hsx0 hNe hq1
            generalize C q = u at *
            generalize (nw (laterB n l (bitB k) x) n) = fl at *
            go_wp2_with fail
            refine HH.out.mono ?_
            rintro e w' ⟨rfl, rfl⟩
            go_wp2_with fail
            refine wp_region_held_drew (S := (fun w' : World => w'.cell? ⟨w.heap.size, 0, none⟩ = some (.int .i64 (n : Int)) ∧ w'.cell? ⟨w.heap.size, 1, none⟩ = some (.slice A l.length c) ∧ w'.cell? ⟨w.heap.size + 1, q, none⟩ = some (.int .i64 u))) (by kernel_rfl) (by (try dsimp only); simp [*]) (fun hHeld => ?_)
            change wpAnyH _ _ _ _ _ _ #[false, false, false, false, false, false, false, false, false, false, false, false, false, false] _ _
            refine wpAnyH_take (i := 0) (oi := ⟨some 33, _, _, _, _, _⟩) (v := ?_) rfl (by kernel_rfl) (by kernel_rfl) (by kernel_rfl) (fun _ _ _ h => h) (Or.inl ⟨by rfl, ?_⟩) (by assumption) ?_
            rotate_left
            · (intro w hSw; (try dsimp only at hSw); go_simp; (try (with_reducible rfl)))
            try simp only [Act.put, List.setIfInBounds_toArray, List.set_cons_zero, List.set_cons_succ]
            refine wpAnyH_take (i := 1) (oi := ⟨some 34, _, _, _, _, _⟩) (v := ?_) rfl (by kernel_rfl) (by kernel_rfl) (by kernel_rfl) (fun _ _ _ h => h) (Or.inl ⟨by rfl, ?_⟩) (by assumption) ?_
            rotate_left
            · (intro w hSw; (try dsimp only at hSw); go_simp; (try (with_reducible rfl)))
            try simp only [Act.put, List.setIfInBounds_toArray, List.set_cons_zero, List.set_cons_succ]
            refine wpAnyH_take (i := 2) (oi := ⟨some 35, _, _, _, _, _⟩) (v := ?_) rfl (by kernel_rfl) (by kernel_rfl) (by kernel_rfl) (fun _ _ _ h => h) (Or.inl ⟨by rfl, ?_⟩) (by assumption) ?_
            rotate_left
            · (intro w hSw; (try dsimp only at hSw); go_simp; (try (with_reducible rfl)))
            try simp only [Act.put, List.setIfInBounds_toArray, List.set_cons_zero, List.set_cons_succ]
            refine wpAnyH_take (i := 5) (oi := ⟨some 38, _, _, _, _, _⟩) (v := ?_) rfl (by kernel_rfl) (by kernel_rfl) (by kernel_rfl) (fun _ _ _ h => h) (Or.inl ⟨by rfl, ?_⟩) (by assumption) ?_
            rotate_left
            · (intro w hSw; (try dsimp only at hSw); go_simp; (try (with_reducible rfl)))
            try simp only [Act.put, List.setIfInBounds_toArray, List.set_cons_zero, List.set_cons_succ]
            refine wpAnyH_take (i := 6) (oi := ⟨some 39, _, _, _, _, _⟩) (v := ?_) rfl (by kernel_rfl) (by kernel_rfl) (by kernel_rfl) (fun _ _ _ h => h) (Or.inl ⟨by rfl, ?_⟩) (by assumption) ?_
            rotate_left
            · (intro w hSw; (try dsimp only at hSw); go_simp; (try (with_reducible rfl)))
            try simp only [Act.put, List.setIfInBounds_toArray, List.set_cons_zero, List.set_cons_succ]
            refine wpAnyH_take (i := 7) (oi := ⟨some 40, _, _, _, _, _⟩) (v := ?_) rfl (by kernel_rfl) (by kernel_rfl) (by kernel_rfl) (fun _ _ _ h => h) (Or.inl ⟨by rfl, ?_⟩) (by assumption) ?_
            rotate_left
            · (intro w hSw; (try dsimp only at hSw); go_simp; (try (with_reducible rfl)))
            try simp only [Act.put, List.setIfInBounds_toArray, List.set_cons_zero, List.set_cons_succ]
            refine wpAnyH_take (i := 8) (oi := ⟨some 41, _, _, _, _, _⟩) (v := ?_) rfl (by kernel_rfl) (by kernel_rfl) (by kernel_rfl) (fun _ _ _ h => h) (Or.inl ⟨by rfl, ?_⟩) (by assumption) ?_
            rotate_left
            · (intro w hSw; (try dsimp only at hSw); go_simp; (try (with_reducible rfl)))
            try simp only [Act.put, List.setIfInBounds_toArray, List.set_cons_zero, List.set_cons_succ]
            refine wpAnyH_take (i := 9) (oi := ⟨some 42, _, _, _, _, _⟩) (v := ?_) rfl (by kernel_rfl) (by kernel_rfl) (by kernel_rfl) (fun _ _ _ h => h) (Or.inl ⟨by rfl, ?_⟩) (by assumption) ?_
            rotate_left
            · (intro w hSw; (try dsimp only at hSw); go_simp; (try (with_reducible rfl)))
            try simp only [Act.put, List.setIfInBounds_toArray, List.set_cons_zero, List.set_cons_succ]
            refine wpAnyH_take (i := 10) (oi := ⟨some 43, _, _, _, _, _⟩) (v := ?_) rfl (by kernel_rfl) (by kernel_rfl) (by kernel_rfl) (fun _ _ _ h => h) (Or.inl ⟨by rfl, ?_⟩) (by assumption) ?_
            rotate_left
            · (intro w hSw; (try dsimp only at hSw); go_simp; (try (with_reducible rfl)))
            try simp only [Act.put, List.setIfInBounds_toArray, List.set_cons_zero, List.set_cons_succ]
            refine wpAnyH_take (i := 11) (oi := ⟨some 44, _, _, _, _, _⟩) (v := ?_) rfl (by kernel_rfl) (by kernel_rfl) (by kernel_rfl) (fun _ _ _ h => h) (Or.inl ⟨by rfl, ?_⟩) (by assumption) ?_
            rotate_left
            · (intro w hSw; (try dsimp only at hSw); go_simp; (try (with_reducible rfl)))
            try simp only [Act.put, List.setIfInBounds_toArray, List.set_cons_zero, List.set_cons_succ]
            refine wpAnyH_ready (rs := [3]) (by kernel_rfl) (by simp) ?_
            refine AllReadyH.cons (o := ⟨some 36, _, _, _, _, _⟩) rfl (fun K hK => ?_) AllReadyH.nil
            go_simp
            refine HLA.out.mono ?_; rintro e w3 ⟨A7, c7, rfl, o7, b7⟩; have d3 : Below wr.heap.size wr w3 := btrans (Below.refl _ _).drew b7; obtain ⟨k0, k1, -, -⟩ := (HG.out.below d3 HG.out.lt).two; have f3 := nearv.cell_keep f2 d3; have HB3 := Lib.hid (btrans HB.out d3)
            go_wp2_with fail
            refine hK.out _ _ (by (try dsimp only); simp [*]) (fun hHeld => ?_)
            clear hK K
            try simp only [List.setIfInBounds_toArray, List.set_cons_zero, List.set_cons_succ]
            refine wpAnyH_take (i := 4) (oi := ⟨some 37, _, _, _, _, _⟩) (v := ?_) rfl (by kernel_rfl) (by kernel_rfl) (by kernel_rfl) (fun _ _ _ h => h) (Or.inl ⟨by rfl, ?_⟩) (by assumption) ?_
            rotate_left
            · (intro w hSw; (try dsimp only at hSw); go_simp; (try (with_reducible rfl)))
            try simp only [Act.put, List.setIfInBounds_toArray, List.set_cons_zero, List.set_cons_succ]
            refine wpAnyH_ready (rs := [12]) (by kernel_rfl) (by simp) ?_
            refine AllReadyH.cons (o := ⟨some 45, _, _, _, _, _⟩) rfl (fun K hK => ?_) AllReadyH.nil
            go_simp
            refine (HMO.out _ _ _).mono ?_; rintro e w' ⟨rfl, rfl⟩
            go_wp2_with fail
            refine hK.out _ _ (by (try dsimp only); simp [*]) (fun hHeld => ?_)
            clear hK K
            try simp only [List.setIfInBounds_toArray, List.set_cons_zero, List.set_cons_succ]
            refine wpAnyH_take (i := 13) (oi := ⟨some 8, _, _, _, _, _⟩) (v := ?_) rfl (by kernel_rfl) (by kernel_rfl) (by kernel_rfl) (fun _ _ _ h => h) (Or.inl ⟨by rfl, ?_⟩) (by assumption) ?_
            rotate_left
            · (intro w hSw; (try dsimp only at hSw); go_simp; (try (with_reducible rfl)))
            try simp only [Act.put, List.setIfInBounds_toArray, List.set_cons_zero, List.set_cons_succ]
            refine wpAnyH_done (by kernel_rfl) ?_ _
            clear b7 o7 d3 hHeld k0 k1 f3 f2 p0 p1
            by_cases hl0 : b < 0
            · have HP := Lib.hid (HTK.out (.inl hl0))
              go_wp2_with fail
              go_roundg g4
              case measure => omega
              case rel => exact ⟨x + 1, _, by omega, by go_num, rfl, HP, HB3.out⟩
            · by_cases hl1 : max (fl.length : Int) u < b
              · have HP := Lib.hid (HTK.out (.inr hl1))
                go_wp2_with fail
                go_roundg g4
                case measure => omega
                case rel => exact ⟨x + 1, _, by omega, by go_num, rfl, HP, HB3.out⟩
              · have HP := Lib.hid (HKP.out (by omega) (by omega))
                go_wp2_with fail
                go_roundg g4
                case measure => omega
                case rel => exact ⟨x + 1, b, by omega, by go_num, rfl, HP, HB3.out⟩
end Go.Proofs.Ytphlpipbhaiijaa.costs
