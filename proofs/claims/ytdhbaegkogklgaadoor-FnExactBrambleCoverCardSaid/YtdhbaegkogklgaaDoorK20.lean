/- Guards: the contract of the model's l10Answers. -/
import Derived.Handy
import Derived.Test.YtdhbaegkogklgaaDoorK17
import Derived.Test.YtdhbaegkogklgaaDoorK19
import Derived.Maps.AppendAt
import Derived.Deep.DeepCutAuto
import Derived.Deep.RegionHeld3
import Derived.Deep.QuietTactic
import Derived.Test.YtdhbaegkogklgaaDoorK11
import Derived.Test.YtdhbaegkogklgaaDoorK10
import Derived.Test.YtdhbaegkogklgaaDoorK04
namespace Go.Proofs.YtdhbaegkogklgaaDoor.ups
open Go.RowKit P2 words edges ints good adjs fns sets rets covs bags balls bitsI func lists times apps gridr grid
set_option linter.unusedVariables false

theorem has_nd {b x : Nat} (hb : b < 256) : decide ((x : Int) ∈ ndN b) = b.testBit x := by
  rw [Bool.eq_iff_iff, decide_eq_true_iff]
  unfold ndN
  rw [mem_nw]
  constructor
  · rintro ⟨j, hj, hp, e⟩
    have : x = j := by omega
    subst this; exact hp
  · intro h
    refine ⟨x, ?_, h, rfl⟩
    by_cases e : x < 8
    · exact e
    · rw [Nat.testBit_lt_two_pow (Nat.lt_of_lt_of_le hb (show 256 ≤ 2 ^ x from by
        have := Nat.pow_le_pow_right (show 0 < 2 by decide) (show 8 ≤ x by omega)
        exact this))] at h
      cases h
/-- the places of the answers to an attack -/
def plP (l : List Ed) (all : Bool) (x a : Nat) (L : List Nat) (i : Nat) : Bool := ansB l all x a (L.getD i 0)
def plL (l : List Ed) (all : Bool) (x a : Nat) (L : List Nat) : List Int := nw (plP l all x a L) L.length
theorem plP_at {l : List Ed} {all : Bool} {x a : Nat} {L : List Nat} {i b : Nat} (h : L[i]? = some b) : plP l all x a L i = ansB l all x a b := by
  unfold plP
  rw [List.getD_eq_getElem?_getD, h]; rfl
set_option maxHeartbeats 8000000 in
set_option maxRecDepth 100000 in
theorem l10Answers_any (n k pl x a : Nat) (all : Bool) (v t : Value) (us : List Value) (L : List Nat) (l : List Ed) (w : World) (h : Edges w v l) (hl : l.length ≤ 1048576) (ht : ReadsG w t us (rowN L)) (hL : ∀ c ∈ L, c < 2 ^ n ∧ onesN c = k) (hLl : L.length ≤ 256) (hpl : L[pl]? = some a) (hg : P2.Good (n : Int) l) (hn : n ≤ 8) :
    Calls Tryd.prog 90 #[.agg #[.int .i64 (n : Int), v], t, .int .i64 (pl : Int), .int .i64 (x : Int), .bool all] w (RowI w (plL l all x a L)) := by
  obtain ⟨A, c, rfl, -⟩ := h.form
  obtain ⟨i0, hi, hz0, hz1, hz2⟩ := info_parts infoInt
  obtain ⟨At, ct, rfl, -⟩ := ht.1
  obtain ⟨ua, g5, o5, hua5, hA5, ca5, hua⟩ := ht.row (rowN_at hpl)
  subst hA5
  obtain ⟨Aa, ca, rfl, -⟩ := hua.form
  have H := Lib.hid h
  have HT := Lib.hid ht
  have HUA := Lib.hid hua
  have HCA := Lib.hid ca5
  have hrl := rowN_len L
  have hpll : pl < L.length := (List.getElem?_eq_some_iff.1 hpl).1
  have hpl' : (pl : Int) < ((rowN L).length : Int) := by omega
  have hrl2 : (rowN L).length ≤ 256 := by omega
  have HRL := Lib.hid hrl
  have ha2 := hL a (List.mem_of_getElem? hpl)
  have HHS := Lib.hid (fun (b : Nat) (hb : b < 256) (u : Value) (W : World) (hu : Ints W u (ndN b)) => (by have h_ := l1Has_any u (ndN b) (x : Int) W hu (by have := nw_len (bitB b) 8; unfold ndN; omega); rw [has_nd hb] at h_; exact h_ : Calls Tryd.prog 41 #[u, .int .i64 (x : Int)] W fun e w' => e = .returned (.bool (b.testBit x)) ∧ W = w'))
  have HMV := Lib.hid (fun (b : Nat) (hb : b ∈ L) (ub : Value) (W : World) (hW : Below w.heap.size w W) (hub : Ints W ub (ndN b)) => l10Moves_any n a b all (.slice A l.length c) (.slice Aa (ndN a).length ca) ub l W (H.out.below hW) hl (HUA.out.below hW) hub hg hn ha2.1 (hL b hb).1 (ha2.2.trans (hL b hb).2.symm))
  have HB8 : Hid (∀ b ∈ L, b < 256) := fun b hb => Nat.lt_of_lt_of_le (hL b hb).1 (pow_le hn)
  have HB0 : Hid (Below w.heap.size w ((w.alloc (.cells #[.int .i64 (n : Int), .slice A l.length c] 29)).alloc (.cells #[] 3))) := ((Below.refl _ _).alloc (Nat.le_refl _) _).alloc (by simp) _
  have HG0 := Lib.hid ((Blk.new w 29 #[.int .i64 (n : Int), .slice A l.length c]).alloc (.cells #[] 3))
  have o0 := own_new0 (w.alloc (.cells #[.int .i64 (n : Int), .slice A l.length c] 29)) 3 1
  rw [World.size_alloc] at o0
  have HO0 := Lib.hid (own_base (B' := w.heap.size) o0 (by omega))
  have HPY : Hid (∀ (i b : Nat), L[i]? = some b → ansB l all x a b = true → nw (plP l all x a L) (i + 1) = nw (plP l all x a L) i ++ [(i : Int)]) := fun i b h1 h2 => nw_yes (by rw [plP_at h1]; exact h2)
  have HPN : Hid (∀ (i b : Nat), L[i]? = some b → ansB l all x a b = false → nw (plP l all x a L) (i + 1) = nw (plP l all x a L) i) := fun i b h1 h2 => nw_no (by rw [plP_at h1]; exact h2)
  have HV : Hid (plL l all x a L = nw (plP l all x a L) L.length) := rfl
  have HPL : Hid (∀ i, (nw (plP l all x a L) i).length ≤ i) := fun i => nw_len _ _
  clear h ht hua ca5 hua5 hg ha2 hrl o0 hL
  have HLL := Lib.hid hLl
  generalize nw (plP l all x a L) = PF at *
  go_enter Tryd.func90, Tryd.ntmps90
  go_wp2_with fail
  go_loopg [11, 12] L.length (fun g ov iv wr => ∃ (i : Nat) (ow : Value), ow = ov ∧ i + g = L.length ∧ iv = .int .i64 (i : Int) ∧ wr.ownsRow w.heap.size 3 1 ow (PF i).length (cellsI (PF i)) ∧ Blk wr w.heap.size 29 #[.int .i64 (n : Int), .slice A l.length c] ∧ Below w.heap.size w wr)
  case atStart => exact ⟨0, _, rfl, by omega, rfl, by have h_ := HPL.out 0; rw [List.length_eq_zero_iff.1 (Nat.le_zero.1 h_)]; exact HO0.out, HG0.out, HB0.out⟩
  case round =>
    clear HO0 HG0 HB0
    obtain ⟨i, ow, rfl, hig, rfl, hrow, hgb, hB⟩ := hrel
    obtain ⟨A4, c4, rfl⟩ := own_form hrow
    obtain ⟨p0, p1, -, -⟩ := hgb.two
    have HB := Lib.hid hB
    have HG := Lib.hid hgb
    have HR := Lib.hid hrow
    cases gk with
    | zero =>
      obtain rfl : i = L.length := by omega
      have hnl : ¬ ((L.length : Int) < ((rowN L).length : Int)) := by rw [HRL.out]; omega
      clear hrow hgb hB
      go_wp2_with fail
      go_ret
      rw [HV.out]
      exact ⟨A4, c4, rfl, HR.out, HB.out⟩
    | succ g2 =>
      have hlt : i < L.length := by omega
      have hlt' : (i : Int) < ((rowN L).length : Int) := by rw [HRL.out]; omega
      obtain ⟨b, hb⟩ : ∃ b, L[i]? = some b := ⟨_, List.getElem?_eq_getElem hlt⟩
      have hbm := List.mem_of_getElem? hb
      obtain ⟨ub, g6, o6, hu6, hA6, cb5, hub⟩ := (HT.out.below hB).row (rowN_at hb)
      simp only [Option.some.injEq, Addr.mk.injEq, and_true] at hA6
      obtain ⟨rfl, rfl⟩ := hA6
      obtain ⟨Ab, cb, rfl, -⟩ := hub.form
      have ca5 := nearv.cell_keep HCA.out hB
      have HUB := Lib.hid hub
      have HH := Lib.hid (HHS.out b (HB8.out b hbm) (.slice Ab (ndN b).length cb) wr.drew (hub.below (Below.refl _ _).drew))
      have hpi := HPL.out i
      cases hbt : b.testBit x with
      | false =>
        have HN := Lib.hid (HPN.out i b hb (by unfold ansB; rw [hbt]; rfl))
        rw [hbt] at HH
        clear hbt hb hbm hub hu6 hrow hgb hB
        go_wp2_with fail
        refine wp_region_held_drew (S := (fun w' : World => w'.cell? ⟨w.heap.size, 0, none⟩ = some (.int .i64 (n : Int)) ∧ w'.cell? ⟨w.heap.size, 1, none⟩ = some (.slice A l.length c) ∧ w'.cell? ⟨g5, o5 + i, none⟩ = some (.slice Ab (ndN b).length cb) ∧ w'.cell? ⟨g5, o5 + pl, none⟩ = some (.slice Aa (ndN a).length ca))) (by kernel_rfl) (by (try dsimp only); simp [*]) (fun hHeld => ?_)
        change wpAnyH _ _ _ _ _ _ #[false, false, false, false, false, false, false, false, false, false, false, false, false, false, false, false, false, false, false] _ _
        refine wpAnyH_take (i := 0) (oi := ⟨some 20, _, _, _, _, _⟩) (v := ?_) rfl (by kernel_rfl) (by kernel_rfl) (by kernel_rfl) (fun _ _ _ h => h) (Or.inl ⟨by rfl, ?_⟩) (by assumption) ?_
        rotate_left
        · (intro w hSw; (try dsimp only at hSw); go_simp; (try (with_reducible rfl)))
        try simp only [Act.put, List.setIfInBounds_toArray, List.set_cons_zero, List.set_cons_succ]
        refine wpAnyH_take (i := 1) (oi := ⟨some 21, _, _, _, _, _⟩) (v := ?_) rfl (by kernel_rfl) (by kernel_rfl) (by kernel_rfl) (fun _ _ _ h => h) (Or.inl ⟨by rfl, ?_⟩) (by assumption) ?_
        rotate_left
        · (intro w hSw; (try dsimp only at hSw); go_simp; (try (with_reducible rfl)))
        try simp only [Act.put, List.setIfInBounds_toArray, List.set_cons_zero, List.set_cons_succ]
        refine wpAnyH_take (i := 2) (oi := ⟨some 22, _, _, _, _, _⟩) (v := ?_) rfl (by kernel_rfl) (by kernel_rfl) (by kernel_rfl) (fun _ _ _ h => h) (Or.inl ⟨by rfl, ?_⟩) (by assumption) ?_
        rotate_left
        · (intro w hSw; (try dsimp only at hSw); go_simp; (try (with_reducible rfl)))
        try simp only [Act.put, List.setIfInBounds_toArray, List.set_cons_zero, List.set_cons_succ]
        refine wpAnyH_take (i := 3) (oi := ⟨some 23, _, _, _, _, _⟩) (v := ?_) rfl (by kernel_rfl) (by kernel_rfl) (by kernel_rfl) (fun _ _ _ h => h) (Or.inl ⟨by rfl, ?_⟩) (by assumption) ?_
        rotate_left
        · (intro w hSw; (try dsimp only at hSw); go_simp; (try (with_reducible rfl)))
        try simp only [Act.put, List.setIfInBounds_toArray, List.set_cons_zero, List.set_cons_succ]
        refine wpAnyH_take (i := 4) (oi := ⟨some 24, _, _, _, _, _⟩) (v := ?_) rfl (by kernel_rfl) (by kernel_rfl) (by kernel_rfl) (fun _ _ _ h => h) (Or.inl ⟨by rfl, ?_⟩) (by assumption) ?_
        rotate_left
        · (intro w hSw; (try dsimp only at hSw); go_simp; (try (with_reducible rfl)))
        try simp only [Act.put, List.setIfInBounds_toArray, List.set_cons_zero, List.set_cons_succ]
        refine wpAnyH_ready (rs := [5]) (by kernel_rfl) (by simp) ?_
        refine AllReadyH.cons (o := ⟨some 25, _, _, _, _, _⟩) rfl (fun K hK => ?_) AllReadyH.nil
        go_simp
        (with_reducible refine HH.out.mono ?_); rintro e w4 ⟨rfl, rfl⟩; obtain ⟨k0, k1, -, -⟩ := (HG.out.drewN 1).two
        go_wp2_with fail
        refine hK.out _ _ (by (try dsimp only); simp [*]) (fun hHeld => ?_)
        clear hK K
        try simp only [List.setIfInBounds_toArray, List.set_cons_zero, List.set_cons_succ]
        refine wpAnyH_take (i := 6) (oi := ⟨some 26, _, _, _, _, _⟩) (v := ?_) rfl (by kernel_rfl) (by kernel_rfl) (by kernel_rfl) (fun _ _ _ h => h) (Or.inl ⟨by rfl, ?_⟩) (by assumption) ?_
        rotate_left
        · (intro w hSw; (try dsimp only at hSw); go_simp; (try (with_reducible rfl)))
        try simp only [Act.put, List.setIfInBounds_toArray, List.set_cons_zero, List.set_cons_succ]
        refine wpAnyH_take (i := 7) (oi := ⟨some 27, _, _, _, _, _⟩) (v := undef) rfl (by kernel_rfl) (by kernel_rfl) (by kernel_rfl) (fun _ _ _ h => h) (Or.inr ⟨by rfl, rfl⟩) (by assumption) ?_
        try simp only [Act.put, List.setIfInBounds_toArray, List.set_cons_zero, List.set_cons_succ]
        refine wpAnyH_take (i := 8) (oi := ⟨some 28, _, _, _, _, _⟩) (v := undef) rfl (by kernel_rfl) (by kernel_rfl) (by kernel_rfl) (fun _ _ _ h => h) (Or.inr ⟨by rfl, rfl⟩) (by assumption) ?_
        try simp only [Act.put, List.setIfInBounds_toArray, List.set_cons_zero, List.set_cons_succ]
        refine wpAnyH_take (i := 9) (oi := ⟨some 29, _, _, _, _, _⟩) (v := undef) rfl (by kernel_rfl) (by kernel_rfl) (by kernel_rfl) (fun _ _ _ h => h) (Or.inr ⟨by rfl, rfl⟩) (by assumption) ?_
        try simp only [Act.put, List.setIfInBounds_toArray, List.set_cons_zero, List.set_cons_succ]
        refine wpAnyH_take (i := 10) (oi := ⟨some 30, _, _, _, _, _⟩) (v := undef) rfl (by kernel_rfl) (by kernel_rfl) (by kernel_rfl) (fun _ _ _ h => h) (Or.inr ⟨by rfl, rfl⟩) (by assumption) ?_
        try simp only [Act.put, List.setIfInBounds_toArray, List.set_cons_zero, List.set_cons_succ]
        refine wpAnyH_take (i := 11) (oi := ⟨some 31, _, _, _, _, _⟩) (v := undef) rfl (by kernel_rfl) (by kernel_rfl) (by kernel_rfl) (fun _ _ _ h => h) (Or.inr ⟨by rfl, rfl⟩) (by assumption) ?_
        try simp only [Act.put, List.setIfInBounds_toArray, List.set_cons_zero, List.set_cons_succ]
        refine wpAnyH_take (i := 12) (oi := ⟨some 32, _, _, _, _, _⟩) (v := undef) rfl (by kernel_rfl) (by kernel_rfl) (by kernel_rfl) (fun _ _ _ h => h) (Or.inr ⟨by rfl, rfl⟩) (by assumption) ?_
        try simp only [Act.put, List.setIfInBounds_toArray, List.set_cons_zero, List.set_cons_succ]
        refine wpAnyH_take (i := 13) (oi := ⟨some 33, _, _, _, _, _⟩) (v := undef) rfl (by kernel_rfl) (by kernel_rfl) (by kernel_rfl) (fun _ _ _ h => h) (Or.inr ⟨by rfl, rfl⟩) (by assumption) ?_
        try simp only [Act.put, List.setIfInBounds_toArray, List.set_cons_zero, List.set_cons_succ]
        refine wpAnyH_take (i := 14) (oi := ⟨some 34, _, _, _, _, _⟩) (v := undef) rfl (by kernel_rfl) (by kernel_rfl) (by kernel_rfl) (fun _ _ _ h => h) (Or.inr ⟨by rfl, rfl⟩) (by assumption) ?_
        try simp only [Act.put, List.setIfInBounds_toArray, List.set_cons_zero, List.set_cons_succ]
        refine wpAnyH_take (i := 15) (oi := ⟨some 35, _, _, _, _, _⟩) (v := undef) rfl (by kernel_rfl) (by kernel_rfl) (by kernel_rfl) (fun _ _ _ h => h) (Or.inr ⟨by rfl, rfl⟩) (by assumption) ?_
        try simp only [Act.put, List.setIfInBounds_toArray, List.set_cons_zero, List.set_cons_succ]
        refine wpAnyH_take (i := 16) (oi := ⟨some 36, _, _, _, _, _⟩) (v := undef) rfl (by kernel_rfl) (by kernel_rfl) (by kernel_rfl) (fun _ _ _ h => h) (Or.inr ⟨by rfl, rfl⟩) (by assumption) ?_
        try simp only [Act.put, List.setIfInBounds_toArray, List.set_cons_zero, List.set_cons_succ]
        refine wpAnyH_take (i := 17) (oi := ⟨some 37, _, _, _, _, _⟩) (v := undef) rfl (by kernel_rfl) (by kernel_rfl) (by kernel_rfl) (fun _ _ _ h => h) (Or.inr ⟨by rfl, rfl⟩) (by assumption) ?_
        try simp only [Act.put, List.setIfInBounds_toArray, List.set_cons_zero, List.set_cons_succ]
        refine wpAnyH_take (i := 18) (oi := ⟨some 38, _, _, _, _, _⟩) (v := ?_) rfl (by kernel_rfl) (by kernel_rfl) (by kernel_rfl) (fun _ _ _ h => h) (Or.inl ⟨by rfl, ?_⟩) (by assumption) ?_
        rotate_left
        · (intro w hSw; (try dsimp only at hSw); go_simp; (try (with_reducible rfl)))
        try simp only [Act.put, List.setIfInBounds_toArray, List.set_cons_zero, List.set_cons_succ]
        refine wpAnyH_done (by kernel_rfl) ?_ _
        have HG4 := Lib.hid (HG.out.drewN 1)
        have HR4 := Lib.hid HR.out.drew
        have HB4 := Lib.hid HB.out.drew
        clear p0 p1 k0 k1 hHeld ca5 cb5
        go_wp2_with fail
        go_roundg g2
        case measure => omega
        case rel => exact ⟨i + 1, _, rfl, by omega, by go_num, by rw [HN.out]; exact HR4.out, HG4.out, HB4.out⟩
      | true =>
        have HM1 := Lib.hid (fun (W : World) (hW : Below wr.heap.size wr W) => HMV.out b hbm (.slice Ab (ndN b).length cb) W (btrans HB.out hW) (HUB.out.below hW))
        rw [hbt] at HH
        cases hmv : mvB l all a b with
        | false =>
          have HN := Lib.hid (HPN.out i b hb (by unfold ansB; rw [hbt, hmv]; rfl))
          rw [hmv] at HM1
          clear hbt hb hbm hub hu6 hrow hgb hB hmv
          go_wp2_with fail
          refine wp_region_held_drew (S := (fun w' : World => w'.cell? ⟨w.heap.size, 0, none⟩ = some (.int .i64 (n : Int)) ∧ w'.cell? ⟨w.heap.size, 1, none⟩ = some (.slice A l.length c) ∧ w'.cell? ⟨g5, o5 + i, none⟩ = some (.slice Ab (ndN b).length cb) ∧ w'.cell? ⟨g5, o5 + pl, none⟩ = some (.slice Aa (ndN a).length ca))) (by kernel_rfl) (by (try dsimp only); simp [*]) (fun hHeld => ?_)
          change wpAnyH _ _ _ _ _ _ #[false, false, false, false, false, false, false, false, false, false, false, false, false, false, false, false, false, false, false] _ _
          refine wpAnyH_take (i := 0) (oi := ⟨some 20, _, _, _, _, _⟩) (v := ?_) rfl (by kernel_rfl) (by kernel_rfl) (by kernel_rfl) (fun _ _ _ h => h) (Or.inl ⟨by rfl, ?_⟩) (by assumption) ?_
          rotate_left
          · (intro w hSw; (try dsimp only at hSw); go_simp; (try (with_reducible rfl)))
          try simp only [Act.put, List.setIfInBounds_toArray, List.set_cons_zero, List.set_cons_succ]
          refine wpAnyH_take (i := 1) (oi := ⟨some 21, _, _, _, _, _⟩) (v := ?_) rfl (by kernel_rfl) (by kernel_rfl) (by kernel_rfl) (fun _ _ _ h => h) (Or.inl ⟨by rfl, ?_⟩) (by assumption) ?_
          rotate_left
          · (intro w hSw; (try dsimp only at hSw); go_simp; (try (with_reducible rfl)))
          try simp only [Act.put, List.setIfInBounds_toArray, List.set_cons_zero, List.set_cons_succ]
          refine wpAnyH_take (i := 2) (oi := ⟨some 22, _, _, _, _, _⟩) (v := ?_) rfl (by kernel_rfl) (by kernel_rfl) (by kernel_rfl) (fun _ _ _ h => h) (Or.inl ⟨by rfl, ?_⟩) (by assumption) ?_
          rotate_left
          · (intro w hSw; (try dsimp only at hSw); go_simp; (try (with_reducible rfl)))
          try simp only [Act.put, List.setIfInBounds_toArray, List.set_cons_zero, List.set_cons_succ]
          refine wpAnyH_take (i := 3) (oi := ⟨some 23, _, _, _, _, _⟩) (v := ?_) rfl (by kernel_rfl) (by kernel_rfl) (by kernel_rfl) (fun _ _ _ h => h) (Or.inl ⟨by rfl, ?_⟩) (by assumption) ?_
          rotate_left
          · (intro w hSw; (try dsimp only at hSw); go_simp; (try (with_reducible rfl)))
          try simp only [Act.put, List.setIfInBounds_toArray, List.set_cons_zero, List.set_cons_succ]
          refine wpAnyH_take (i := 4) (oi := ⟨some 24, _, _, _, _, _⟩) (v := ?_) rfl (by kernel_rfl) (by kernel_rfl) (by kernel_rfl) (fun _ _ _ h => h) (Or.inl ⟨by rfl, ?_⟩) (by assumption) ?_
          rotate_left
          · (intro w hSw; (try dsimp only at hSw); go_simp; (try (with_reducible rfl)))
          try simp only [Act.put, List.setIfInBounds_toArray, List.set_cons_zero, List.set_cons_succ]
          refine wpAnyH_ready (rs := [5]) (by kernel_rfl) (by simp) ?_
          refine AllReadyH.cons (o := ⟨some 25, _, _, _, _, _⟩) rfl (fun K hK => ?_) AllReadyH.nil
          go_simp
          (with_reducible refine HH.out.mono ?_); rintro e w4 ⟨rfl, rfl⟩; obtain ⟨k0, k1, -, -⟩ := (HG.out.drewN 1).two
          go_wp2_with fail
          refine hK.out _ _ (by (try dsimp only); simp [*]) (fun hHeld => ?_)
          clear hK K
          try simp only [List.setIfInBounds_toArray, List.set_cons_zero, List.set_cons_succ]
          refine wpAnyH_take (i := 6) (oi := ⟨some 26, _, _, _, _, _⟩) (v := ?_) rfl (by kernel_rfl) (by kernel_rfl) (by kernel_rfl) (fun _ _ _ h => h) (Or.inl ⟨by rfl, ?_⟩) (by assumption) ?_
          rotate_left
          · (intro w hSw; (try dsimp only at hSw); go_simp; (try (with_reducible rfl)))
          try simp only [Act.put, List.setIfInBounds_toArray, List.set_cons_zero, List.set_cons_succ]
          refine wpAnyH_take (i := 7) (oi := ⟨some 27, _, _, _, _, _⟩) (v := ?_) rfl (by kernel_rfl) (by kernel_rfl) (by kernel_rfl) (fun _ _ _ h => h) (Or.inl ⟨by rfl, ?_⟩) (by assumption) ?_
          rotate_left
          · (intro w hSw; (try dsimp only at hSw); go_simp; (try (with_reducible rfl)))
          try simp only [Act.put, List.setIfInBounds_toArray, List.set_cons_zero, List.set_cons_succ]
          refine wpAnyH_take (i := 8) (oi := ⟨some 28, _, _, _, _, _⟩) (v := ?_) rfl (by kernel_rfl) (by kernel_rfl) (by kernel_rfl) (fun _ _ _ h => h) (Or.inl ⟨by rfl, ?_⟩) (by assumption) ?_
          rotate_left
          · (intro w hSw; (try dsimp only at hSw); go_simp; (try (with_reducible rfl)))
          try simp only [Act.put, List.setIfInBounds_toArray, List.set_cons_zero, List.set_cons_succ]
          refine wpAnyH_take (i := 9) (oi := ⟨some 29, _, _, _, _, _⟩) (v := ?_) rfl (by kernel_rfl) (by kernel_rfl) (by kernel_rfl) (fun _ _ _ h => h) (Or.inl ⟨by rfl, ?_⟩) (by assumption) ?_
          rotate_left
          · (intro w hSw; (try dsimp only at hSw); go_simp; (try (with_reducible rfl)))
          try simp only [Act.put, List.setIfInBounds_toArray, List.set_cons_zero, List.set_cons_succ]
          refine wpAnyH_take (i := 10) (oi := ⟨some 30, _, _, _, _, _⟩) (v := ?_) rfl (by kernel_rfl) (by kernel_rfl) (by kernel_rfl) (fun _ _ _ h => h) (Or.inl ⟨by rfl, ?_⟩) (by assumption) ?_
          rotate_left
          · (intro w hSw; (try dsimp only at hSw); go_simp; (try (with_reducible rfl)))
          try simp only [Act.put, List.setIfInBounds_toArray, List.set_cons_zero, List.set_cons_succ]
          refine wpAnyH_take (i := 11) (oi := ⟨some 31, _, _, _, _, _⟩) (v := ?_) rfl (by kernel_rfl) (by kernel_rfl) (by kernel_rfl) (fun _ _ _ h => h) (Or.inl ⟨by rfl, ?_⟩) (by assumption) ?_
          rotate_left
          · (intro w hSw; (try dsimp only at hSw); go_simp; (try (with_reducible rfl)))
          try simp only [Act.put, List.setIfInBounds_toArray, List.set_cons_zero, List.set_cons_succ]
          refine wpAnyH_take (i := 12) (oi := ⟨some 32, _, _, _, _, _⟩) (v := ?_) rfl (by kernel_rfl) (by kernel_rfl) (by kernel_rfl) (fun _ _ _ h => h) (Or.inl ⟨by rfl, ?_⟩) (by assumption) ?_
          rotate_left
          · (intro w hSw; (try dsimp only at hSw); go_simp; (try (with_reducible rfl)))
          try simp only [Act.put, List.setIfInBounds_toArray, List.set_cons_zero, List.set_cons_succ]
          refine wpAnyH_take (i := 13) (oi := ⟨some 33, _, _, _, _, _⟩) (v := ?_) rfl (by kernel_rfl) (by kernel_rfl) (by kernel_rfl) (fun _ _ _ h => h) (Or.inl ⟨by rfl, ?_⟩) (by assumption) ?_
          rotate_left
          · (intro w hSw; (try dsimp only at hSw); go_simp; (try (with_reducible rfl)))
          try simp only [Act.put, List.setIfInBounds_toArray, List.set_cons_zero, List.set_cons_succ]
          refine wpAnyH_take (i := 14) (oi := ⟨some 34, _, _, _, _, _⟩) (v := ?_) rfl (by kernel_rfl) (by kernel_rfl) (by kernel_rfl) (fun _ _ _ h => h) (Or.inl ⟨by rfl, ?_⟩) (by assumption) ?_
          rotate_left
          · (intro w hSw; (try dsimp only at hSw); go_simp; (try (with_reducible rfl)))
          try simp only [Act.put, List.setIfInBounds_toArray, List.set_cons_zero, List.set_cons_succ]
          refine wpAnyH_take (i := 15) (oi := ⟨some 35, _, _, _, _, _⟩) (v := ?_) rfl (by kernel_rfl) (by kernel_rfl) (by kernel_rfl) (fun _ _ _ h => h) (Or.inl ⟨by rfl, ?_⟩) (by assumption) ?_
          rotate_left
          · (intro w hSw; (try dsimp only at hSw); go_simp; (try (with_reducible rfl)))
          try simp only [Act.put, List.setIfInBounds_toArray, List.set_cons_zero, List.set_cons_succ]
          refine wpAnyH_take (i := 16) (oi := ⟨some 36, _, _, _, _, _⟩) (v := ?_) rfl (by kernel_rfl) (by kernel_rfl) (by kernel_rfl) (fun _ _ _ h => h) (Or.inl ⟨by rfl, ?_⟩) (by assumption) ?_
          rotate_left
          · (intro w hSw; (try dsimp only at hSw); go_simp; (try (with_reducible rfl)))
          try simp only [Act.put, List.setIfInBounds_toArray, List.set_cons_zero, List.set_cons_succ]
          refine wpAnyH_ready (rs := [17]) (by kernel_rfl) (by simp) ?_
          refine AllReadyH.cons (o := ⟨some 37, _, _, _, _, _⟩) rfl (fun K hK => ?_) AllReadyH.nil
          go_simp
          (with_reducible refine (HM1.out wr.drew (Below.refl _ _).drew).mono ?_); rintro e w4 ⟨rfl, b4⟩; have d4 : Below wr.heap.size wr w4 := btrans (Below.refl _ _).drew b4; obtain ⟨i0_, i1_, -, -⟩ := (HG.out.below d4 HG.out.lt).two; have i2_ := nearv.cell_keep cb5 d4; have i3_ := nearv.cell_keep ca5 d4
          go_wp2_with fail
          refine hK.out _ _ (by (try dsimp only); simp [*]) (fun hHeld => ?_)
          clear hK K
          try simp only [List.setIfInBounds_toArray, List.set_cons_zero, List.set_cons_succ]
          refine wpAnyH_take (i := 18) (oi := ⟨some 38, _, _, _, _, _⟩) (v := ?_) rfl (by kernel_rfl) (by kernel_rfl) (by kernel_rfl) (fun _ _ _ h => h) (Or.inl ⟨by rfl, ?_⟩) (by assumption) ?_
          rotate_left
          · (intro w hSw; (try dsimp only at hSw); go_simp; (try (with_reducible rfl)))
          try simp only [Act.put, List.setIfInBounds_toArray, List.set_cons_zero, List.set_cons_succ]
          refine wpAnyH_done (by kernel_rfl) ?_ _
          have HG4 := Lib.hid (HG.out.below d4 HG.out.lt)
          have HR4 := Lib.hid (own_below HR.out d4)
          have HB4 := Lib.hid (btrans HB.out d4)
          clear p0 p1 k0 k1 hHeld ca5 cb5 i0_ i1_ i2_ i3_ d4 b4
          go_wp2_with fail
          go_roundg g2
          case measure => omega
          case rel => exact ⟨i + 1, _, rfl, by omega, by go_num, by rw [HN.out]; exact HR4.out, HG4.out, HB4.out⟩
        | true =>
          have HN := Lib.hid (HPY.out i b hb (by unfold ansB; rw [hbt, hmv]; rfl))
          rw [hmv] at HM1
          clear hbt hb hbm hub hu6 hrow hgb hB hmv
          go_wp2_with fail
          refine wp_region_held_drew (S := (fun w' : World => w'.cell? ⟨w.heap.size, 0, none⟩ = some (.int .i64 (n : Int)) ∧ w'.cell? ⟨w.heap.size, 1, none⟩ = some (.slice A l.length c) ∧ w'.cell? ⟨g5, o5 + i, none⟩ = some (.slice Ab (ndN b).length cb) ∧ w'.cell? ⟨g5, o5 + pl, none⟩ = some (.slice Aa (ndN a).length ca))) (by kernel_rfl) (by (try dsimp only); simp [*]) (fun hHeld => ?_)
          change wpAnyH _ _ _ _ _ _ #[false, false, false, false, false, false, false, false, false, false, false, false, false, false, false, false, false, false, false] _ _
          refine wpAnyH_take (i := 0) (oi := ⟨some 20, _, _, _, _, _⟩) (v := ?_) rfl (by kernel_rfl) (by kernel_rfl) (by kernel_rfl) (fun _ _ _ h => h) (Or.inl ⟨by rfl, ?_⟩) (by assumption) ?_
          rotate_left
          · (intro w hSw; (try dsimp only at hSw); go_simp; (try (with_reducible rfl)))
          try simp only [Act.put, List.setIfInBounds_toArray, List.set_cons_zero, List.set_cons_succ]
          refine wpAnyH_take (i := 1) (oi := ⟨some 21, _, _, _, _, _⟩) (v := ?_) rfl (by kernel_rfl) (by kernel_rfl) (by kernel_rfl) (fun _ _ _ h => h) (Or.inl ⟨by rfl, ?_⟩) (by assumption) ?_
          rotate_left
          · (intro w hSw; (try dsimp only at hSw); go_simp; (try (with_reducible rfl)))
          try simp only [Act.put, List.setIfInBounds_toArray, List.set_cons_zero, List.set_cons_succ]
          refine wpAnyH_take (i := 2) (oi := ⟨some 22, _, _, _, _, _⟩) (v := ?_) rfl (by kernel_rfl) (by kernel_rfl) (by kernel_rfl) (fun _ _ _ h => h) (Or.inl ⟨by rfl, ?_⟩) (by assumption) ?_
          rotate_left
          · (intro w hSw; (try dsimp only at hSw); go_simp; (try (with_reducible rfl)))
          try simp only [Act.put, List.setIfInBounds_toArray, List.set_cons_zero, List.set_cons_succ]
          refine wpAnyH_take (i := 3) (oi := ⟨some 23, _, _, _, _, _⟩) (v := ?_) rfl (by kernel_rfl) (by kernel_rfl) (by kernel_rfl) (fun _ _ _ h => h) (Or.inl ⟨by rfl, ?_⟩) (by assumption) ?_
          rotate_left
          · (intro w hSw; (try dsimp only at hSw); go_simp; (try (with_reducible rfl)))
          try simp only [Act.put, List.setIfInBounds_toArray, List.set_cons_zero, List.set_cons_succ]
          refine wpAnyH_take (i := 4) (oi := ⟨some 24, _, _, _, _, _⟩) (v := ?_) rfl (by kernel_rfl) (by kernel_rfl) (by kernel_rfl) (fun _ _ _ h => h) (Or.inl ⟨by rfl, ?_⟩) (by assumption) ?_
          rotate_left
          · (intro w hSw; (try dsimp only at hSw); go_simp; (try (with_reducible rfl)))
          try simp only [Act.put, List.setIfInBounds_toArray, List.set_cons_zero, List.set_cons_succ]
          refine wpAnyH_ready (rs := [5]) (by kernel_rfl) (by simp) ?_
          refine AllReadyH.cons (o := ⟨some 25, _, _, _, _, _⟩) rfl (fun K hK => ?_) AllReadyH.nil
          go_simp
          (with_reducible refine HH.out.mono ?_); rintro e w4 ⟨rfl, rfl⟩; obtain ⟨k0, k1, -, -⟩ := (HG.out.drewN 1).two
          go_wp2_with fail
          refine hK.out _ _ (by (try dsimp only); simp [*]) (fun hHeld => ?_)
          clear hK K
          try simp only [List.setIfInBounds_toArray, List.set_cons_zero, List.set_cons_succ]
          refine wpAnyH_take (i := 6) (oi := ⟨some 26, _, _, _, _, _⟩) (v := ?_) rfl (by kernel_rfl) (by kernel_rfl) (by kernel_rfl) (fun _ _ _ h => h) (Or.inl ⟨by rfl, ?_⟩) (by assumption) ?_
          rotate_left
          · (intro w hSw; (try dsimp only at hSw); go_simp; (try (with_reducible rfl)))
          try simp only [Act.put, List.setIfInBounds_toArray, List.set_cons_zero, List.set_cons_succ]
          refine wpAnyH_take (i := 7) (oi := ⟨some 27, _, _, _, _, _⟩) (v := ?_) rfl (by kernel_rfl) (by kernel_rfl) (by kernel_rfl) (fun _ _ _ h => h) (Or.inl ⟨by rfl, ?_⟩) (by assumption) ?_
          rotate_left
          · (intro w hSw; (try dsimp only at hSw); go_simp; (try (with_reducible rfl)))
          try simp only [Act.put, List.setIfInBounds_toArray, List.set_cons_zero, List.set_cons_succ]
          refine wpAnyH_take (i := 8) (oi := ⟨some 28, _, _, _, _, _⟩) (v := ?_) rfl (by kernel_rfl) (by kernel_rfl) (by kernel_rfl) (fun _ _ _ h => h) (Or.inl ⟨by rfl, ?_⟩) (by assumption) ?_
          rotate_left
          · (intro w hSw; (try dsimp only at hSw); go_simp; (try (with_reducible rfl)))
          try simp only [Act.put, List.setIfInBounds_toArray, List.set_cons_zero, List.set_cons_succ]
          refine wpAnyH_take (i := 9) (oi := ⟨some 29, _, _, _, _, _⟩) (v := ?_) rfl (by kernel_rfl) (by kernel_rfl) (by kernel_rfl) (fun _ _ _ h => h) (Or.inl ⟨by rfl, ?_⟩) (by assumption) ?_
          rotate_left
          · (intro w hSw; (try dsimp only at hSw); go_simp; (try (with_reducible rfl)))
          try simp only [Act.put, List.setIfInBounds_toArray, List.set_cons_zero, List.set_cons_succ]
          refine wpAnyH_take (i := 10) (oi := ⟨some 30, _, _, _, _, _⟩) (v := ?_) rfl (by kernel_rfl) (by kernel_rfl) (by kernel_rfl) (fun _ _ _ h => h) (Or.inl ⟨by rfl, ?_⟩) (by assumption) ?_
          rotate_left
          · (intro w hSw; (try dsimp only at hSw); go_simp; (try (with_reducible rfl)))
          try simp only [Act.put, List.setIfInBounds_toArray, List.set_cons_zero, List.set_cons_succ]
          refine wpAnyH_take (i := 11) (oi := ⟨some 31, _, _, _, _, _⟩) (v := ?_) rfl (by kernel_rfl) (by kernel_rfl) (by kernel_rfl) (fun _ _ _ h => h) (Or.inl ⟨by rfl, ?_⟩) (by assumption) ?_
          rotate_left
          · (intro w hSw; (try dsimp only at hSw); go_simp; (try (with_reducible rfl)))
          try simp only [Act.put, List.setIfInBounds_toArray, List.set_cons_zero, List.set_cons_succ]
          refine wpAnyH_take (i := 12) (oi := ⟨some 32, _, _, _, _, _⟩) (v := ?_) rfl (by kernel_rfl) (by kernel_rfl) (by kernel_rfl) (fun _ _ _ h => h) (Or.inl ⟨by rfl, ?_⟩) (by assumption) ?_
          rotate_left
          · (intro w hSw; (try dsimp only at hSw); go_simp; (try (with_reducible rfl)))
          try simp only [Act.put, List.setIfInBounds_toArray, List.set_cons_zero, List.set_cons_succ]
          refine wpAnyH_take (i := 13) (oi := ⟨some 33, _, _, _, _, _⟩) (v := ?_) rfl (by kernel_rfl) (by kernel_rfl) (by kernel_rfl) (fun _ _ _ h => h) (Or.inl ⟨by rfl, ?_⟩) (by assumption) ?_
          rotate_left
          · (intro w hSw; (try dsimp only at hSw); go_simp; (try (with_reducible rfl)))
          try simp only [Act.put, List.setIfInBounds_toArray, List.set_cons_zero, List.set_cons_succ]
          refine wpAnyH_take (i := 14) (oi := ⟨some 34, _, _, _, _, _⟩) (v := ?_) rfl (by kernel_rfl) (by kernel_rfl) (by kernel_rfl) (fun _ _ _ h => h) (Or.inl ⟨by rfl, ?_⟩) (by assumption) ?_
          rotate_left
          · (intro w hSw; (try dsimp only at hSw); go_simp; (try (with_reducible rfl)))
          try simp only [Act.put, List.setIfInBounds_toArray, List.set_cons_zero, List.set_cons_succ]
          refine wpAnyH_take (i := 15) (oi := ⟨some 35, _, _, _, _, _⟩) (v := ?_) rfl (by kernel_rfl) (by kernel_rfl) (by kernel_rfl) (fun _ _ _ h => h) (Or.inl ⟨by rfl, ?_⟩) (by assumption) ?_
          rotate_left
          · (intro w hSw; (try dsimp only at hSw); go_simp; (try (with_reducible rfl)))
          try simp only [Act.put, List.setIfInBounds_toArray, List.set_cons_zero, List.set_cons_succ]
          refine wpAnyH_take (i := 16) (oi := ⟨some 36, _, _, _, _, _⟩) (v := ?_) rfl (by kernel_rfl) (by kernel_rfl) (by kernel_rfl) (fun _ _ _ h => h) (Or.inl ⟨by rfl, ?_⟩) (by assumption) ?_
          rotate_left
          · (intro w hSw; (try dsimp only at hSw); go_simp; (try (with_reducible rfl)))
          try simp only [Act.put, List.setIfInBounds_toArray, List.set_cons_zero, List.set_cons_succ]
          refine wpAnyH_ready (rs := [17]) (by kernel_rfl) (by simp) ?_
          refine AllReadyH.cons (o := ⟨some 37, _, _, _, _, _⟩) rfl (fun K hK => ?_) AllReadyH.nil
          go_simp
          (with_reducible refine (HM1.out wr.drew (Below.refl _ _).drew).mono ?_); rintro e w4 ⟨rfl, b4⟩; have d4 : Below wr.heap.size wr w4 := btrans (Below.refl _ _).drew b4; obtain ⟨i0_, i1_, -, -⟩ := (HG.out.below d4 HG.out.lt).two; have i2_ := nearv.cell_keep cb5 d4; have i3_ := nearv.cell_keep ca5 d4
          go_wp2_with fail
          refine hK.out _ _ (by (try dsimp only); simp [*]) (fun hHeld => ?_)
          clear hK K
          try simp only [List.setIfInBounds_toArray, List.set_cons_zero, List.set_cons_succ]
          refine wpAnyH_take (i := 18) (oi := ⟨some 38, _, _, _, _, _⟩) (v := ?_) rfl (by kernel_rfl) (by kernel_rfl) (by kernel_rfl) (fun _ _ _ h => h) (Or.inl ⟨by rfl, ?_⟩) (by assumption) ?_
          rotate_left
          · (intro w hSw; (try dsimp only at hSw); go_simp; (try (with_reducible rfl)))
          try simp only [Act.put, List.setIfInBounds_toArray, List.set_cons_zero, List.set_cons_succ]
          refine wpAnyH_done (by kernel_rfl) ?_ _
          have HG4 := Lib.hid (HG.out.below d4 HG.out.lt)
          have HR4 := Lib.hid (own_below HR.out d4)
          have HB4 := Lib.hid (btrans HB.out d4)
          have hsz := HB4.out.size
          clear p0 p1 k0 k1 hHeld ca5 cb5 i0_ i1_ i2_ i3_ d4 b4
          generalize hPI : PF i = Pi at *
          go_wp2_with (at_builtin; refine wpList_append_own _ rfl _ _ 25 rfl (w.heap.size) 3 i0 (.int .i64 0) 1 8 Tryd.underlying25 hi hz0 hz1 hz2 rfl (by decide) _ _ _ rfl (HR4.out.alloc _) ⟨w4.heap.size, 0, none⟩ 1 1 [.int .i64 ((i : Int))] rfl rfl (cell_one_new _ _ _) (fun x hx => by simp at hx; subst hx; rfl) (by unfold maxLen; omega) (by omega) (by simp; omega) ?_; intro v2 w2 hown2 hgrow2 _)
          have hown3 : w2.ownsRow w.heap.size 3 1 v2 (Pi ++ [(i : Int)]).length (cellsI (Pi ++ [(i : Int)])) := by
            rw [List.length_append, show cellsI (Pi ++ [(i : Int)]) = cellsI Pi ++ [.int .i64 (i : Int)] from by simp [cellsI]]
            exact hown2
          have HR2 := Lib.hid hown3
          have HB2 := Lib.hid ((HB4.out.alloc hsz (.cells #[.int .i64 (i : Int)] 3)).grown hgrow2 (by simp; omega) (fun p_ e_ => (HR4.out.lt p_ e_).1))
          have HG2 := Lib.hid (mids.grown_blk (w := w4) HR4.out HG4.out (by decide) hgrow2)
          clear hown2 hgrow2 hown3 hPI
          go_roundg g2
          case measure => omega
          case rel => exact ⟨i + 1, v2, rfl, by omega, by go_num, by rw [HN.out]; exact HR2.out, HG2.out, HB2.out⟩
end Go.Proofs.YtdhbaegkogklgaaDoor.ups

/- A table whose rows are named from another one. -/
namespace Go.Proofs.YtdhbaegkogklgaaDoor.ups
open Go.RowKit P2 words edges ints owns grid gridr gridl
set_option linter.unusedVariables false

/-- a row that lies elsewhere is named in a table -/
theorem pickPush {w w6 : World} {B : Nat} {v u v6 : Value} {us : List Value} {rows : List (List Int)} {r : List Int} {o : Obj} (h : OwnG w B v us rows) (hu : w.ownsRow B 3 1 u r.length (cellsI r)) (hf : ∀ x ∈ us, ∀ k, x.ownBlock = some k → u.ownBlock ≠ some k)
    (hown : w6.ownsRow B 25 1 v6 (rows.length + 1) (us ++ [u])) (hg : (w.alloc o).grownBy w6 v.ownBlock) : OwnG w6 B v6 (us ++ [u]) (rows ++ [r]) := by
  have hlen := h.len
  have apart : ∀ {x : Value} {q : List Int}, w.ownsRow B 3 1 x q.length (cellsI q) → x.ownBlock = none ∨ x.ownBlock ≠ v.ownBlock := fun {x q} ho => by
    cases hh : x.ownBlock with
    | none => exact .inl rfl
    | some k => exact .inr (fun e => own_apart ho h.1 tneI k hh e.symm)
  refine ⟨by rw [List.length_append]; exact hown, ?_, ?_⟩
  · intro i x q hx hq
    by_cases hi : i < rows.length
    · rw [List.getElem?_append_left (by omega)] at hx
      rw [List.getElem?_append_left hi] at hq
      have ho := h.2.1 i x q hx hq
      exact (ho.alloc o).kept hg (apart ho)
    · have hi' : i = rows.length := by
        have := (List.getElem?_eq_some_iff.1 hq).1
        simp at this; omega
      subst hi'
      rw [List.getElem?_append_right (by omega), hlen, Nat.sub_self] at hx
      rw [List.getElem?_append_right (by omega), Nat.sub_self] at hq
      cases hx; cases hq
      exact (hu.alloc o).kept hg (apart hu)
  · intro i j x y k hij hx hy hxk
    by_cases hj : j < us.length
    · rw [List.getElem?_append_left hj] at hy
      rw [List.getElem?_append_left (by omega)] at hx
      exact h.2.2 i j x y k hij hx hy hxk
    · have hj' : j = us.length := by
        have := (List.getElem?_eq_some_iff.1 hy).1
        simp at this; omega
      subst hj'
      rw [List.getElem?_append_right (by omega), Nat.sub_self] at hy
      rw [List.getElem?_append_left hij] at hx
      cases hy
      exact hf x (List.mem_of_getElem? hx) k hxk
theorem pickKept {w w6 : World} {C D : Nat} {sv ov : Value} {us : List Value} {rows : List (List Int)} {o : Obj} (h : OwnGR C D w sv us rows) (hne : ∀ k, ov.ownBlock = some k → k < C ∨ D ≤ k) (hg : (w.alloc o).grownBy w6 ov.ownBlock) : OwnGR C D w6 sv us rows := by
  have key : ∀ {x : Value} {t : TypeId} {m : Nat} {q : List Value}, w.ownsRow C t 1 x m q → (∀ k, x.ownBlock = some k → k < D) → x.ownBlock = none ∨ x.ownBlock ≠ ov.ownBlock := fun {x t m q} hx hb => by
    cases hh : x.ownBlock with
    | none => exact .inl rfl
    | some k => exact .inr (fun e => by
        have h1 := (hx.lt k hh).1
        have h2 := hb k hh
        rcases hne k e.symm with h3 | h3 <;> omega)
  exact ⟨⟨(h.1.1.alloc o).kept hg (key h.1.1 h.2.1), fun i x q hx hq => ((h.1.2.1 i x q hx hq).alloc o).kept hg (key (h.1.2.1 i x q hx hq) (fun k hk => h.2.2 i x k hx hk)), h.1.2.2⟩, h.2⟩
/-- rows of a table sv (blocks from C to D), the first i of them, named in a table ov of the call's own -/
def Pick (w : World) (B C D i : Nat) (ov sv : Value) (os us : List Value) (O S : List (List Int)) : Prop :=
  OwnG w B ov os O ∧ OwnGR C D w sv us S ∧ (∀ u ∈ os, ∃ j, j < i ∧ us[j]? = some u) ∧ (∀ k, ov.ownBlock = some k → k < C ∨ D ≤ k) ∧ B ≤ C ∧ D ≤ w.heap.size
theorem Pick.below {w w' : World} {B C D i : Nat} {ov sv : Value} {os us : List Value} {O S : List (List Int)} (h : Pick w B C D i ov sv os us O S) (hb : Below w.heap.size w w') : Pick w' B C D i ov sv os us O S :=
  ⟨h.1.below hb, h.2.1.below hb, h.2.2.1, h.2.2.2.1, h.2.2.2.2.1, Nat.le_trans h.2.2.2.2.2 hb.size⟩
theorem Pick.more {w : World} {B C D i j : Nat} {ov sv : Value} {os us : List Value} {O S : List (List Int)} (h : Pick w B C D i ov sv os us O S) (hij : i ≤ j) : Pick w B C D j ov sv os us O S :=
  ⟨h.1, h.2.1, fun u hu => by obtain ⟨k, h1, h2⟩ := h.2.2.1 u hu; exact ⟨k, by omega, h2⟩, h.2.2.2⟩
theorem Pick.push {w w6 : World} {B C D i j : Nat} {ov sv v6 u : Value} {os us : List Value} {O S : List (List Int)} {r : List Int} {o : Obj} (h : Pick w B C D i ov sv os us O S) (hu : us[j]? = some u) (hr : S[j]? = some r) (hij : i ≤ j)
    (hown : w6.ownsRow B 25 1 v6 (O.length + 1) (os ++ [u])) (hg : (w.alloc o).grownBy w6 ov.ownBlock) (hl : v6.ownBlock = ov.ownBlock ∨ v6.ownBlock = some (w.alloc o).heap.size) : Pick w6 B C D (j + 1) v6 sv (os ++ [u]) us (O ++ [r]) S := by
  obtain ⟨h1, h2, h3, h4, h5, h6⟩ := h
  refine ⟨pickPush h1 (own_base (h2.1.2.1 j u r hu hr) h5) (fun x hx k hk => ?_) hown hg, pickKept h2 h4 hg, fun y hy => ?_, fun k hk => ?_, h5, ?_⟩
  · obtain ⟨m, hm, hm2⟩ := h3 x hx
    exact h2.1.2.2 m j x u k (by omega) hm2 hu hk
  · rcases List.mem_append.1 hy with hy | hy
    · obtain ⟨m, hm, hm2⟩ := h3 y hy; exact ⟨m, by omega, hm2⟩
    · rw [List.mem_singleton.1 hy]; exact ⟨j, by omega, hu⟩
  · rcases hl with e | e
    · exact h4 k (e.symm.trans hk)
    · rw [e, World.size_alloc] at hk
      have := Option.some.inj hk
      exact .inr (by omega)
  · have := hg.size
    rw [World.size_alloc] at this
    omega
end Go.Proofs.YtdhbaegkogklgaaDoor.ups

/- Guards: the contract of the model's l10Table. -/
namespace Go.Proofs.YtdhbaegkogklgaaDoor.ups
open Go.RowKit P2 words edges ints good adjs fns sets rets covs bags balls bitsI func lists times apps gridr grid trip
set_option linter.unusedVariables false

theorem infoGr : (Tryd.prog.info? 40).map (fun i => (i.zero, i.size, i.bytes)) = some (some (.slice none 0 0), 1, 24) := by kernel_rfl
theorem tneG : (25 : TypeId) ≠ 40 := by decide
theorem tneIG : (3 : TypeId) ≠ 40 := by decide
/-- a table of tables of the call's own -/
def OwnGG (w : World) (B : Nat) (v : Value) (us : List Value) (T : List (List (List Int))) : Prop :=
  w.ownsRow B 40 1 v T.length us ∧ ∀ (i : Nat) u R, us[i]? = some u → T[i]? = some R → ∃ uu, OwnG w B u uu R
theorem OwnGG.below {w w' : World} {B : Nat} {v : Value} {us : List Value} {T : List (List (List Int))} (h : OwnGG w B v us T) (hb : Below w.heap.size w w') : OwnGG w' B v us T :=
  ⟨own_below h.1 hb, fun i u R hu hR => by obtain ⟨uu, h2⟩ := h.2 i u R hu hR; exact ⟨uu, h2.below hb⟩⟩
theorem OwnGG.base {w : World} {B C : Nat} {v : Value} {us : List Value} {T : List (List (List Int))} (h : OwnGG w B v us T) (hC : C ≤ B) : OwnGG w C v us T :=
  ⟨own_base h.1 hC, fun i u R hu hR => by obtain ⟨uu, h2⟩ := h.2 i u R hu hR; exact ⟨uu, h2.base hC⟩⟩
theorem OwnGG.len {w : World} {B : Nat} {v : Value} {us : List Value} {T : List (List (List Int))} (h : OwnGG w B v us T) : us.length = T.length := by have := h.1.1; omega
theorem own_keptG {w w6 : World} {B C n : Nat} {u v : Value} {uu xs : List Value} {R : List (List Int)} {o : Obj} (h : OwnG w C u uu R) (hv : w.ownsRow B 40 1 v n xs) (hg : (w.alloc o).grownBy w6 v.ownBlock) : OwnG w6 C u uu R := by
  have key : ∀ {t : TypeId} {x : Value} {m : Nat} {q : List Value}, t ≠ 40 → w.ownsRow C t 1 x m q → w6.ownsRow C t 1 x m q := fun {t x m q} ht ho => (ho.alloc o).kept hg (by
    cases hh : x.ownBlock with
    | none => exact .inl rfl
    | some k => exact .inr fun e => own_apart ho hv ht k hh e.symm)
  exact ⟨key tneG h.1, fun i x q hx hq => key tneIG (h.2.1 i x q hx hq), h.2.2⟩
theorem OwnGG.push {w w6 : World} {B : Nat} {u v v6 : Value} {us uu : List Value} {T : List (List (List Int))} {R : List (List Int)} {o : Obj} (h : OwnGG w B v us T) (hr : OwnG w B u uu R) (hown : w6.ownsRow B 40 1 v6 (T.length + 1) (us ++ [u])) (hg : (w.alloc o).grownBy w6 v.ownBlock) : OwnGG w6 B v6 (us ++ [u]) (T ++ [R]) := by
  refine ⟨by rw [List.length_append]; exact hown, fun i x Q hx hQ => ?_⟩
  by_cases hi : i < T.length
  · rw [List.getElem?_append_left (by rw [h.len]; exact hi)] at hx
    rw [List.getElem?_append_left hi] at hQ
    obtain ⟨xx, h2⟩ := h.2 i x Q hx hQ
    exact ⟨xx, own_keptG h2 h.1 hg⟩
  · have hi' : i = T.length := by
      have := (List.getElem?_eq_some_iff.1 hQ).1
      simp at this; omega
    subst hi'
    rw [List.getElem?_append_right (by rw [h.len]; exact Nat.le_refl _), h.len, Nat.sub_self] at hx
    rw [List.getElem?_append_right (by omega), Nat.sub_self] at hQ
    cases hx; cases hQ
    exact ⟨uu, own_keptG hr h.1 hg⟩
/-- the places of the answers to all attacks on a set -/
def tbR (l : List Ed) (all : Bool) (L : List Nat) (a k : Nat) : List (List Int) := (List.range k).map fun x => if a.testBit x then [] else plL l all x a L
theorem tbR_succ (l : List Ed) (all : Bool) (L : List Nat) (a k : Nat) : tbR l all L a (k + 1) = tbR l all L a k ++ [if a.testBit k then [] else plL l all k a L] := by
  unfold tbR; rw [List.range_succ, List.map_append]; rfl
theorem tbR_len (l : List Ed) (all : Bool) (L : List Nat) (a k : Nat) : (tbR l all L a k).length = k := by simp [tbR]
def tblT (n : Nat) (l : List Ed) (all : Bool) (L : List Nat) (k : Nat) : List (List (List Int)) := (L.take k).map fun a => tbR l all L a n
theorem tblT_succ {n : Nat} {l : List Ed} {all : Bool} {L : List Nat} {k a : Nat} (h : L[k]? = some a) : tblT n l all L (k + 1) = tblT n l all L k ++ [tbR l all L a n] := by
  unfold tblT; rw [List.take_add_one, h, List.map_append]; rfl
theorem tblT_len (n : Nat) (l : List Ed) (all : Bool) (L : List Nat) {k : Nat} (h : k ≤ L.length) : (tblT n l all L k).length = k := by unfold tblT; rw [List.length_map, List.length_take]; omega
def tblL (n : Nat) (l : List Ed) (all : Bool) (L : List Nat) : List (List (List Int)) := tblT n l all L L.length
set_option maxHeartbeats 8000000 in
set_option maxRecDepth 100000 in
theorem l10Table_any (n k : Nat) (all : Bool) (v t : Value) (us : List Value) (L : List Nat) (l : List Ed) (w : World) (h : Edges w v l) (hl : l.length ≤ 1048576) (ht : ReadsG w t us (rowN L)) (hL : ∀ c ∈ L, c < 2 ^ n ∧ onesN c = k) (hLl : L.length ≤ 256) (hg : P2.Good (n : Int) l) (hn : n ≤ 8) :
    Calls Tryd.prog 38 #[.agg #[.int .i64 (n : Int), v], t, .bool all] w fun e w' => ∃ A c us, e = .returned (.slice A (tblL n l all L).length c) ∧ OwnGG w' w.heap.size (.slice A (tblL n l all L).length c) us (tblL n l all L) ∧ Below w.heap.size w w' := by
  obtain ⟨A, c, rfl, -⟩ := h.form
  obtain ⟨At, ct, rfl, -⟩ := ht.1
  obtain ⟨i1, hi1, hy0, hy1, hy2⟩ := info_parts infoRow
  obtain ⟨i2, hi2, hx0, hx1, hx2⟩ := info_parts infoGr
  have H := Lib.hid h
  have HT := Lib.hid ht
  have HRL := Lib.hid (rowN_len L)
  have hrl : (rowN L).length ≤ 256 := by rw [HRL.out]; exact hLl
  have HAN := Lib.hid (fun (i x a : Nat) (hi : L[i]? = some a) (W : World) (hW : Below w.heap.size w W) => l10Answers_any n k i x a all (.slice A l.length c) (.slice At (rowN L).length ct) us L l W (H.out.below hW) hl (HT.out.below hW) hL hLl hi hg hn)
  have HHS := Lib.hid (fun (a x : Nat) (ha : a < 256) (u : Value) (W : World) (hu : Ints W u (ndN a)) => (by have h_ := l1Has_any u (ndN a) (x : Int) W hu (by have := nw_len (bitB a) 8; unfold ndN; omega); rw [has_nd ha] at h_; exact h_ : Calls Tryd.prog 41 #[u, .int .i64 (x : Int)] W fun e w' => e = .returned (.bool (a.testBit x)) ∧ W = w'))
  have HB8 : Hid (∀ b ∈ L, b < 256) := fun b hb => Nat.lt_of_lt_of_le (hL b hb).1 (pow_le hn)
  have HB0 : Hid (Below w.heap.size w ((w.alloc (.cells #[.int .i64 (n : Int), .slice A l.length c] 29)).alloc (.cells #[] 40))) := ((Below.refl _ _).alloc (Nat.le_refl _) _).alloc (by simp) _
  have HG0 := Lib.hid ((Blk.new w 29 #[.int .i64 (n : Int), .slice A l.length c]).alloc (.cells #[] 40))
  have o0 := own_new0 (w.alloc (.cells #[.int .i64 (n : Int), .slice A l.length c] 29)) 40 1
  rw [World.size_alloc] at o0
  have HO0 : Hid (OwnGG ((w.alloc (.cells #[.int .i64 (n : Int), .slice A l.length c] 29)).alloc (.cells #[] 40)) w.heap.size (.slice (some ⟨w.heap.size + 1, 0, none⟩) 0 0) [] (tblT n l all L 0)) := ⟨own_base o0 (by omega), fun i u R hu => by simp at hu⟩
  have HTS : Hid (∀ i a, L[i]? = some a → tblT n l all L (i + 1) = tblT n l all L i ++ [tbR l all L a n]) := fun i a h => tblT_succ h
  have HTL : Hid (∀ i, i ≤ L.length → (tblT n l all L i).length = i) := fun i h => tblT_len n l all L h
  have HV : Hid (tblL n l all L = tblT n l all L L.length) := rfl
  clear h ht hg hL o0
  have HLL := Lib.hid hLl
  generalize tblT n l all L = TT at *
  go_enter Tryd.func38, Tryd.ntmps38
  go_wp2_with fail
  go_loopg [7, 8] L.length (fun g ov iv wr => ∃ (i : Nat) (ow : Value) (os : List Value), ow = ov ∧ i + g = L.length ∧ iv = .int .i64 (i : Int) ∧ OwnGG wr w.heap.size ow os (TT i) ∧ Blk wr w.heap.size 29 #[.int .i64 (n : Int), .slice A l.length c] ∧ Below w.heap.size w wr)
  case atStart => exact ⟨0, _, [], rfl, by omega, rfl, HO0.out, HG0.out, HB0.out⟩
  case round =>
    clear HO0 HG0 HB0
    obtain ⟨i, ow, os, rfl, hig, rfl, hgg, hgb, hB⟩ := hrel
    obtain ⟨A4, c4, rfl⟩ := own_form hgg.1
    obtain ⟨p0, p1, -, -⟩ := hgb.two
    have HB := Lib.hid hB
    have HG := Lib.hid hgb
    have HO := Lib.hid hgg
    cases gk with
    | zero =>
      obtain rfl : i = L.length := by omega
      have hnl : ¬ ((L.length : Int) < ((rowN L).length : Int)) := by rw [HRL.out]; omega
      clear hgg hgb hB
      go_wp2_with fail
      go_ret
      rw [HV.out]
      exact ⟨A4, c4, rfl, ⟨os, HO.out⟩, HB.out⟩
    | succ g2 =>
      have hlt : i < L.length := by omega
      have hlt' : (i : Int) < ((rowN L).length : Int) := by rw [HRL.out]; omega
      obtain ⟨a, ha⟩ : ∃ a, L[i]? = some a := ⟨_, List.getElem?_eq_getElem hlt⟩
      have ha8 := HB8.out a (List.mem_of_getElem? ha)
      obtain ⟨ua, g5, o5, hua5, hA5, ca5w, huaw⟩ := HT.out.row (rowN_at ha)
      subst hA5
      obtain ⟨Aa, ca, rfl, -⟩ := huaw.form
      have HCA := Lib.hid ca5w
      have HUA := Lib.hid huaw
      have HTX := Lib.hid (HTS.out i a ha)
      have HAN1 := Lib.hid (fun (x : Nat) (W : World) (hW : Below w.heap.size w W) => HAN.out i x a ha W hW)
      have HH1 := Lib.hid (fun (x : Nat) (W : World) (hW : Below w.heap.size w W) => HHS.out a x ha8 (.slice Aa (ndN a).length ca) W (HUA.out.below hW))
      have HRS := Lib.hid (tbR_succ l all L a)
      have HRN := Lib.hid (tbR_len l all L a)
      have hiT : (TT i).length ≤ 256 := by rw [HTL.out i (by omega)]; omega
      have hosl : os.length ≤ 256 := (hgg.len ▸ hiT)
      obtain ⟨wo, hwo⟩ : ∃ wo, wo = wr := ⟨_, rfl⟩
      subst hwo
      have HN0 : Hid (OwnG (wo.alloc (.cells #[] 25)) wo.heap.size (.slice (some ⟨wo.heap.size, 0, none⟩) 0 0) [] (tbR l all L a 0)) := ⟨own_new0 wo 25 1, fun i u r hu => by simp at hu, fun i j u u' k _ hu => by simp at hu⟩
      have HB1 : Hid (Below wo.heap.size wo (wo.alloc (.cells #[] 25))) := (Below.refl _ _).alloc (Nat.le_refl _) _
      clear ha ca5w huaw hgg hgb hB hua5
      generalize tbR l all L a = RT at *
      go_wp2_with fail
      go_loopg [9, 10] n (fun g nv xv wr => ∃ (x : Nat) (nw9 : Value) (us2 : List Value), nw9 = nv ∧ x + g = n ∧ xv = .int .i64 (x : Int) ∧ OwnG wr wo.heap.size nw9 us2 (RT x) ∧ Below wo.heap.size wo wr)
      case atStart => exact ⟨0, _, [], rfl, by omega, rfl, HN0.out, HB1.out⟩
      case round =>
        clear HN0 HB1
        obtain ⟨x, nw9, us2, rfl, hxg, rfl, hN, hB1⟩ := hrel
        obtain ⟨A9, c9, rfl⟩ := own_form hN.1
        have hgb := HG.out.below hB1 HG.out.lt
        clear p0 p1
        obtain ⟨p0, p1, -, -⟩ := hgb.two
        have HN := Lib.hid hN
        have HB1 := Lib.hid hB1
        have HBW := Lib.hid (btrans HB.out hB1)
        have hrx := HRN.out x
        cases gk with
        | zero =>
          obtain rfl : x = n := by omega
          have HO1 := Lib.hid (HO.out.below hB1)
          have HN1 := Lib.hid (hN.base HB.out.size)
          have HG1 := Lib.hid hgb
          have hown := HO1.out.1
          have hsz := HBW.out.size
          clear hN hB1 hgb
          have HRX := Lib.hid hrx
          clear hrx
          generalize RT x = Rx at *
          go_wp2_with (at_builtin; refine wpList_append_own _ rfl _ _ 56 rfl w.heap.size 40 i2 (.slice none 0 0) 1 24 Tryd.underlying56 hi2 hx0 hx1 hx2 rfl (by decide) _ _ _ rfl (hown.alloc _) ⟨wr.heap.size, 0, none⟩ 1 1 [.slice A9 Rx.length c9] rfl rfl (cell_one_new _ _ _) (fun x hx => by simp at hx; subst hx; rfl) (by unfold maxLen; omega) (by omega) (by simp; omega) ?_; intro v8 w8 hown8 hgrow8 _)
          have HO8 := Lib.hid (HO1.out.push HN1.out hown8 hgrow8)
          have HG8 := Lib.hid ((HG1.out.alloc (.cells #[.slice A9 Rx.length c9] 40)).grown hgrow8 (fun e => mids.own_ne hown HG1.out (by decide) e.symm))
          have HB8 := Lib.hid ((HBW.out.alloc hsz (.cells #[.slice A9 Rx.length c9] 40)).grown hgrow8 (by simp; omega) (fun p_ e_ => (hown.lt p_ e_).1))
          clear hown8 hgrow8 hown
          go_roundg g2
          case measure => omega
          case rel => exact ⟨i + 1, v8, _, rfl, by omega, by go_num, by rw [HTX.out]; exact HO8.out, HG8.out, HB8.out⟩
        | succ g3 =>
          have hlx : x < n := by omega
          have hlx' : (x : Int) < (n : Int) := by omega
          have ca5 := nearv.cell_keep HCA.out HBW.out
          have HH := Lib.hid (HH1.out x wr HBW.out)
          have HRX := Lib.hid (HRS.out x)
          have hu2 : us2.length ≤ 8 := by have := hN.len; omega
          have hsz1 := hB1.size
          have hrx8 : (RT x).length ≤ 8 := by omega
          clear hrx
          generalize RT x = Rx at *
          cases hb : a.testBit x with
          | true =>
            rw [hb] at HH HRX
            have hN' := hN
            clear hb hN hB1 hgb
            have HO2 := Lib.hid (own_new0 wr 3 1)
            have b2 : Below wr.heap.size wr (wr.alloc (.cells #[] 3)) := (Below.refl _ _).alloc (Nat.le_refl _) _
            have HB2 := Lib.hid b2
            have hownx := (HN.out.below b2).1
            clear hN' b2
            go_wp2_with fail
            refine HH.out.mono ?_
            rintro e w' ⟨rfl, rfl⟩
            go_wp2_with (at_builtin; refine wpList_append_own _ rfl _ _ 40 rfl wo.heap.size 25 i1 (.slice none 0 0) 1 24 Tryd.underlying40 hi1 hy0 hy1 hy2 rfl (by decide) _ _ _ rfl (hownx.alloc _) ⟨wr.heap.size + 1, 0, none⟩ 1 1 [.slice (some ⟨wr.heap.size, 0, none⟩) 0 0] rfl rfl (by have h_ := cell_one_new (wr.alloc (.cells #[] 3)) (.slice (some ⟨wr.heap.size, 0, none⟩) 0 0) 25; rw [World.size_alloc] at h_; exact h_) (fun x hx => by simp at hx; subst hx; rfl) (by unfold maxLen; omega) (by omega) (by simp; omega) ?_; intro v8 w8 hown8 hgrow8 _)
            have HN8 := Lib.hid (OwnG.push (r := []) HN.out HB2.out hsz1 HO2.out hown8 rfl hgrow8)
            have HB8 := Lib.hid (((btrans HB1.out HB2.out).alloc (by simp; omega) (.cells #[.slice (some ⟨wr.heap.size, 0, none⟩) 0 0] 25)).grown hgrow8 (by simp; omega) (fun p_ e_ => (hownx.lt p_ e_).1))
            clear hown8 hgrow8 hownx ca5
            go_roundg g3
            case measure => omega
            case rel => exact ⟨x + 1, v8, _, rfl, by omega, by go_num, by rw [HRX.out]; exact HN8.out, HB8.out⟩
          | false =>
            rw [hb] at HH HRX
            have HA1 := Lib.hid (HAN1.out x wr HBW.out)
            have hpl : (plL l all x a L).length ≤ 256 := Nat.le_trans (nw_len _ _) HLL.out
            clear hb hN hB1 hgb
            generalize plL l all x a L = P at *
            go_wp2_with fail
            refine HH.out.mono ?_
            rintro e w' ⟨rfl, rfl⟩
            go_wp2_with fail
            refine HA1.out.mono ?_
            rintro e w5 ⟨A6, c6, rfl, o6, b6⟩
            have HB6 := Lib.hid b6
            have HO6 := Lib.hid o6
            have hownx := (HN.out.below b6).1
            have hs6 := b6.size
            clear o6 b6 ca5
            go_wp2_with (at_builtin; refine wpList_append_own _ rfl _ _ 40 rfl wo.heap.size 25 i1 (.slice none 0 0) 1 24 Tryd.underlying40 hi1 hy0 hy1 hy2 rfl (by decide) _ _ _ rfl (hownx.alloc _) ⟨w5.heap.size, 0, none⟩ 1 1 [.slice A6 P.length c6] rfl rfl (cell_one_new _ _ _) (fun x hx => by simp at hx; subst hx; rfl) (by unfold maxLen; omega) (by omega) (by simp; omega) ?_; intro v8 w8 hown8 hgrow8 _)
            have HN8 := Lib.hid (OwnG.push (r := P) HN.out HB6.out hsz1 HO6.out hown8 rfl hgrow8)
            have HB8 := Lib.hid (((btrans HB1.out HB6.out).alloc (by omega) (.cells #[.slice A6 P.length c6] 25)).grown hgrow8 (by simp; omega) (fun p_ e_ => (hownx.lt p_ e_).1))
            clear hown8 hgrow8 hownx
            go_roundg g3
            case measure => omega
            case rel => exact ⟨x + 1, v8, _, rfl, by omega, by go_num, by rw [HRX.out]; exact HN8.out, HB8.out⟩
end Go.Proofs.YtdhbaegkogklgaaDoor.ups

/- Guards: the model's resistances: mathematics. -/
namespace Go.Proofs.YtdhbaegkogklgaaDoor.ups
open Go.RowKit P2 words edges ints good adjs fns sets rets covs bitsI
set_option linter.unusedVariables false

/-- some answer has no number yet -/
def aftB (T P : List Int) : Bool := P.any fun p => decide (T.getD p.toNat 0 < 0)
/-- the greatest number of the answers -/
def aftN (T P : List Int) : Int := P.foldl (fun m p => max m (T.getD p.toNat 0)) 0
theorem aftN_nonneg (T : List Int) : ∀ (P : List Int) (m : Int), 0 ≤ m → 0 ≤ P.foldl (fun m p => max m (T.getD p.toNat 0)) m
  | [], m, h => h
  | p :: P, m, h => aftN_nonneg T P _ (by show 0 ≤ max m _; omega)
theorem aftB_some {T P : List Int} (h : aftB T P = true) : 0 < P.length := by
  unfold aftB at h
  cases P with
  | nil => cases h
  | cons _ _ => simp
/-- some attack has no answer left without a number -/
def falB (T : List Int) (R : List (List Int)) (a : Nat) : Bool := (List.range R.length).any fun x => !a.testBit x && !(aftB T (R.getD x []))
/-- the numbers behind so many rounds -/
noncomputable def rtT (n : Nat) (l : List Ed) (all : Bool) (L : List Nat) (t : Nat) : List Int := L.map fun a => if a ∈ usN n l all L t then -1 else resV n l all L a
theorem rtT_len (n : Nat) (l : List Ed) (all : Bool) (L : List Nat) (t : Nat) : (rtT n l all L t).length = L.length := by simp [rtT]
theorem rtT_at {n : Nat} {l : List Ed} {all : Bool} {L : List Nat} {t i a : Nat} (h : L[i]? = some a) : (rtT n l all L t)[i]? = some (if a ∈ usN n l all L t then -1 else resV n l all L a) := by
  unfold rtT; rw [List.getElem?_map, h]; rfl
theorem us_out {n : Nat} {l : List Ed} {all : Bool} {L : List Nat} {a : Nat} (ha : a ∈ L) : ∀ t, a ∉ usN n l all L t → ∃ s, s < t ∧ Dep n l all L a s
  | 0, h => absurd ha h
  | t + 1, h => by
    by_cases h2 : a ∈ usN n l all L t
    · exact ⟨t, by omega, h2, h⟩
    · obtain ⟨s, hs, hd⟩ := us_out ha t h2
      exact ⟨s, by omega, hd⟩
theorem rt_neg {n : Nat} {l : List Ed} {all : Bool} {L : List Nat} {t a : Nat} (ha : a ∈ L) : decide ((if a ∈ usN n l all L t then (-1 : Int) else resV n l all L a) < 0) = decide (a ∈ usN n l all L t) := by
  by_cases h : a ∈ usN n l all L t
  · rw [if_pos h, decide_eq_true h]; rfl
  · rw [if_neg h, decide_eq_false h]
    obtain ⟨s, _, hd⟩ := us_out ha t h
    rw [resV_dep hd]
    exact decide_eq_false (by omega)
theorem aft_hold {n : Nat} {l : List Ed} {all : Bool} {L : List Nat} {t x a : Nat} : aftB (rtT n l all L t) (plL l all x a L) = (usN n l all L t).any (ansB l all x a) := by
  rw [Bool.eq_iff_iff]
  unfold aftB
  rw [List.any_eq_true, List.any_eq_true]
  constructor
  · rintro ⟨p, hp, hd⟩
    unfold plL at hp
    obtain ⟨i, hi, hpi, rfl⟩ := mem_nw.1 hp
    obtain ⟨b, hb⟩ : ∃ b, L[i]? = some b := ⟨_, List.getElem?_eq_getElem hi⟩
    rw [plP_at hb] at hpi
    rw [show ((i : Int)).toNat = i from rfl, List.getD_eq_getElem?_getD, rtT_at hb] at hd
    have h2 := rt_neg (n := n) (l := l) (all := all) (t := t) (List.mem_of_getElem? hb)
    have h3 : decide (b ∈ usN n l all L t) = true := h2.symm.trans hd
    exact ⟨b, of_decide_eq_true h3, hpi⟩
  · rintro ⟨b, hb, hx⟩
    obtain ⟨i, hi⟩ := List.getElem?_of_mem (us_mem hb)
    have hil := (List.getElem?_eq_some_iff.1 hi).1
    refine ⟨(i : Int), ?_, ?_⟩
    · unfold plL
      exact mem_nw.2 ⟨i, hil, by rw [plP_at hi]; exact hx, rfl⟩
    · rw [show ((i : Int)).toNat = i from rfl, List.getD_eq_getElem?_getD, rtT_at hi]
      have h2 := rt_neg (n := n) (l := l) (all := all) (t := t) (us_mem hb)
      exact h2.trans (decide_eq_true hb)
theorem fal_hold {n : Nat} {l : List Ed} {all : Bool} {L : List Nat} {t a : Nat} : falB (rtT n l all L t) (tbR l all L a n) a = !holdB n l all (usN n l all L t) a := by
  unfold falB holdB
  rw [tbR_len, Bool.eq_iff_iff, Bool.not_eq_true', List.any_eq_true, List.all_eq_false]
  have key : ∀ x, x < n → ((!a.testBit x && !(aftB (rtT n l all L t) ((tbR l all L a n).getD x []))) = true ↔ ¬ (a.testBit x || (usN n l all L t).any (ansB l all x a)) = true) := fun x hx => by
    have h1 : (tbR l all L a n).getD x [] = if a.testBit x then [] else plL l all x a L := by
      unfold tbR
      rw [List.getD_eq_getElem?_getD, List.getElem?_map, List.getElem?_range hx]; rfl
    rw [h1]
    cases h : a.testBit x with
    | true => simp
    | false =>
      rw [if_neg (by decide), aft_hold]
      simp
  constructor
  · rintro ⟨x, hx, h⟩
    exact ⟨x, hx, (key x (List.mem_range.1 hx)).1 h⟩
  · rintro ⟨x, hx, h⟩
    exact ⟨x, hx, (key x (List.mem_range.1 hx)).2 h⟩
/-- within a round: the numbers of the first i sets are those behind it -/
noncomputable def nxT (n : Nat) (l : List Ed) (all : Bool) (L : List Nat) (t i : Nat) : List Int := (rtT n l all L (t + 1)).take i ++ (rtT n l all L t).drop i
theorem nxT_zero (n : Nat) (l : List Ed) (all : Bool) (L : List Nat) (t : Nat) : nxT n l all L t 0 = rtT n l all L t := by simp [nxT]
theorem nxT_all (n : Nat) (l : List Ed) (all : Bool) (L : List Nat) (t : Nat) : nxT n l all L t L.length = rtT n l all L (t + 1) := by
  unfold nxT
  rw [List.take_of_length_le (by rw [rtT_len]; exact Nat.le_refl _), List.drop_eq_nil_of_le (by rw [rtT_len]; exact Nat.le_refl _), List.append_nil]
theorem nxT_len (n : Nat) (l : List Ed) (all : Bool) (L : List Nat) (t : Nat) {i : Nat} (hi : i ≤ L.length) : (nxT n l all L t i).length = L.length := by
  unfold nxT
  rw [List.length_append, List.length_take, List.length_drop, rtT_len, rtT_len]; omega
theorem nxT_set {n : Nat} {l : List Ed} {all : Bool} {L : List Nat} {t i : Nat} {v : Int} (h : (rtT n l all L (t + 1))[i]? = some v) : (nxT n l all L t i).set i v = nxT n l all L t (i + 1) := by
  have hi := (List.getElem?_eq_some_iff.1 h).1
  have hi2 : i < (rtT n l all L t).length := by rw [rtT_len] at hi ⊢; exact hi
  unfold nxT
  rw [List.take_add_one, h, List.drop_eq_getElem_cons hi2]
  rw [List.set_append_right _ _ (by rw [List.length_take]; omega), List.length_take, Nat.min_eq_left (by omega), Nat.sub_self, List.set_cons_zero]
  simp
theorem nxT_keep {n : Nat} {l : List Ed} {all : Bool} {L : List Nat} {t i : Nat} {v : Int} (h : (rtT n l all L (t + 1))[i]? = some v) (k : (rtT n l all L t)[i]? = some v) : nxT n l all L t i = nxT n l all L t (i + 1) := by
  obtain ⟨hi, e⟩ := List.getElem?_eq_some_iff.1 k
  unfold nxT
  rw [List.take_add_one, h, List.drop_eq_getElem_cons hi, e]
  simp
/-- some set of the first i is beaten in this round -/
def grB (n : Nat) (l : List Ed) (all : Bool) (L : List Nat) (t i : Nat) : Bool := (L.take i).any fun a => decide (a ∈ usN n l all L t) && !holdB n l all (usN n l all L t) a
theorem grB_succ {n : Nat} {l : List Ed} {all : Bool} {L : List Nat} {t i a : Nat} (h : L[i]? = some a) : grB n l all L t (i + 1) = (grB n l all L t i || (decide (a ∈ usN n l all L t) && !holdB n l all (usN n l all L t) a)) := by
  unfold grB
  rw [List.take_add_one, h, List.any_append]; simp
theorem us_step {n : Nat} {l : List Ed} {all : Bool} {L : List Nat} {t a : Nat} : a ∈ usN n l all L (t + 1) ↔ a ∈ usN n l all L t ∧ holdB n l all (usN n l all L t) a = true := List.mem_filter
theorem grB_no {n : Nat} {l : List Ed} {all : Bool} {L : List Nat} {t : Nat} (h : grB n l all L t L.length = false) : usN n l all L (t + 1) = usN n l all L t := by
  refine List.filter_eq_self.2 fun a ha => ?_
  unfold grB at h
  rw [List.take_length, List.any_eq_false] at h
  have := h a (us_mem ha)
  rw [decide_eq_true ha] at this
  simpa using this
theorem grB_yes {n : Nat} {l : List Ed} {all : Bool} {L : List Nat} {t : Nat} (h : grB n l all L t L.length = true) : ¬ (usN n l all L (t + 1)).length = (usN n l all L t).length := by
  intro e
  have e2 := us_fix e
  unfold grB at h
  rw [List.take_length, List.any_eq_true] at h
  obtain ⟨a, ha, hb⟩ := h
  rw [Bool.and_eq_true, Bool.not_eq_true'] at hb
  have h1 := of_decide_eq_true hb.1
  have h2 := (us_step.1 (e2 ▸ h1 : a ∈ usN n l all L (t + 1))).2
  rw [hb.2] at h2; cases h2
theorem rtT_end {n : Nat} {l : List Ed} {all : Bool} {L : List Nat} {t : Nat} (h : usN n l all L (t + 1) = usN n l all L t) : rtT n l all L (t + 1) = L.map (resV n l all L) := by
  unfold rtT
  refine List.map_congr_left fun a ha => ?_
  rw [h]
  split
  · rename_i h2
    rw [resV_in h h2]
  · rfl
theorem rtT_zero (n : Nat) (l : List Ed) (all : Bool) (L : List Nat) : rtT n l all L 0 = List.replicate L.length (-1) := by
  unfold rtT
  rw [List.eq_replicate_iff]
  refine ⟨by simp, fun b hb => ?_⟩
  obtain ⟨a, ha, rfl⟩ := List.mem_map.1 hb
  exact if_pos ha
/-- what a round does to a set that falls -/
theorem rt_falls {n : Nat} {l : List Ed} {all : Bool} {L : List Nat} {t i a : Nat} (h : L[i]? = some a) (h1 : a ∈ usN n l all L t) (h2 : holdB n l all (usN n l all L t) a = false) : (rtT n l all L (t + 1))[i]? = some (t : Int) := by
  have h3 : a ∉ usN n l all L (t + 1) := fun k => by have := (us_step.1 k).2; rw [h2] at this; cases this
  rw [rtT_at h, if_neg h3, resV_dep ⟨h1, h3⟩]
theorem rt_stays {n : Nat} {l : List Ed} {all : Bool} {L : List Nat} {t i a : Nat} (h : L[i]? = some a) (h1 : a ∈ usN n l all L t) (h2 : holdB n l all (usN n l all L t) a = true) : (rtT n l all L (t + 1))[i]? = some (-1) := by
  rw [rtT_at h, if_pos (us_step.2 ⟨h1, h2⟩)]
theorem rt_fixed {n : Nat} {l : List Ed} {all : Bool} {L : List Nat} {t i a : Nat} (h : L[i]? = some a) (h1 : a ∉ usN n l all L t) : (rtT n l all L (t + 1))[i]? = some (resV n l all L a) := by
  rw [rtT_at h, if_neg (fun k => h1 (us_step.1 k).1)]
/-- a table of tables that can be read -/
def ReadsGG (w : World) (v : Value) (us : List Value) (T : List (List (List Int))) : Prop :=
  Reads w 1 v T.length us ∧ us.length = T.length ∧ ∀ (i : Nat) u R, us[i]? = some u → T[i]? = some R → ∃ uu, gridr.ReadsG w u uu R
theorem ReadsGG.below {w w' : World} {v : Value} {us : List Value} {T : List (List (List Int))} (h : ReadsGG w v us T) (hb : Below w.heap.size w w') : ReadsGG w' v us T :=
  ⟨h.1.below hb, h.2.1, fun i u R hu hR => by obtain ⟨uu, h2⟩ := h.2.2 i u R hu hR; exact ⟨uu, h2.below hb⟩⟩
theorem ReadsGG.row {w : World} {A : Option Addr} {n c : Nat} {us : List Value} {T : List (List (List Int))} (h : ReadsGG w (.slice A n c) us T) {i : Nat} {R : List (List Int)} (hR : T[i]? = some R) :
    ∃ u g o, us[i]? = some u ∧ A = some ⟨g, o, none⟩ ∧ w.cell? ⟨g, o + i, none⟩ = some u ∧ ∃ uu, gridr.ReadsG w u uu R := by
  have hi := (List.getElem?_eq_some_iff.1 hR).1
  obtain ⟨u, hu⟩ : ∃ u, us[i]? = some u := ⟨_, List.getElem?_eq_getElem (by rw [h.2.1]; exact hi)⟩
  obtain ⟨A', c', e, hx⟩ := h.1
  cases e
  obtain ⟨g, o, rfl, _, hj⟩ := hx (by omega)
  exact ⟨u, g, o, hu, rfl, hj i u hu, h.2.2 i u R hu hR⟩
theorem OwnGG.reads {w : World} {B : Nat} {v : Value} {us : List Value} {T : List (List (List Int))} (h : OwnGG w B v us T) : ReadsGG w v us T :=
  ⟨Reads.of_own h.1, h.len, fun i u R hu hR => by obtain ⟨uu, h2⟩ := h.2 i u R hu hR; exact ⟨uu, gridl.readsG_of_own h2⟩⟩
end Go.Proofs.YtdhbaegkogklgaaDoor.ups

/- The contract of slices.ContainsFunc over words. -/
namespace Go.Proofs.YtdhbaegkogklgaaDoor.ups
open Go.RowKit P2 words edges ints good adjs fns sets rets covs bitsI func
set_option linter.unusedVariables false

theorem containsUU_any (u : Value) (xs : List Nat) (f : FuncId) (caps : Array Value) (p : Nat → Bool) (w : World) (hu : Nums w u xs) (hxl : xs.length ≤ 1048576) (h : FnU w f caps xs p) :
    Calls Tryd.prog 73 #[u, .func (.func f) #[] caps] w fun e w' => e = .returned (.bool (xs.any p)) ∧ Below w.heap.size w w' := by
  have HI := Lib.hid (indexFuncU_any u xs f caps p w hu hxl h)
  have HD := Lib.hid (idxF_any p xs)
  obtain ⟨A2, c2, rfl, -⟩ := hu.form
  clear hu h
  go_enter Tryd.func73, Tryd.ntmps73
  go_wp2_with fail
  refine HI.out.mono ?_
  rintro e w1 ⟨rfl, b1⟩
  go_wp2_with fail
  go_ret
  exact ⟨ret_bool HD.out, b1⟩
end Go.Proofs.YtdhbaegkogklgaaDoor.ups

/- Guards: the contract of the program's holds. -/
namespace Go.Proofs.YtdhbaegkogklgaaDoor.ups
open Go.RowKit P2 words edges ints good adjs fns sets rets covs bags bitsI func lists least
set_option linter.unusedVariables false

set_option maxHeartbeats 2000000 in
set_option maxRecDepth 100000 in
theorem holdsClo_any (n a b x : Nat) (b1 b2 b3 : Nat) (all : Bool) (vc vs : Value) (l : List Ed) (w : World) (h1 : Blk w b1 67 #[vc, .func (.func (ruleF all)) #[] #[], vs]) (h2 : w.cell? ⟨b2, 0, none⟩ = some (.int .u64 (a : Int))) (h3 : w.cell? ⟨b3, 0, none⟩ = some (.int .i64 (x : Int))) (hE : Env w) (hc : Nums w vc (clos l n)) (hg : P2.Good (n : Int) l) (hn : n ≤ 8) (ha : a < 2 ^ n) (hb : b < 2 ^ n) (hx : x ≤ 8) :
    Calls Tryd.prog 126 #[.int .u64 (b : Int), .pointer (some ⟨b1, 0, none⟩), .pointer (some ⟨b2, 0, none⟩), .pointer (some ⟨b3, 0, none⟩)] w fun e w' => e = .returned (.bool (ansB l all x a b)) ∧ Below w.heap.size w w' := by
  obtain ⟨p0, p1, p2⟩ := blkW h1
  have HI := Lib.hid (isAnswer_any n a b x all vc vs l w hE hc hg hn ha hb hx)
  unfold watV at HI
  clear hE hc hg h1
  go_enter Tryd.func126, Tryd.ntmps126
  go_wp2_with fail
  refine HI.out.mono ?_
  rintro e w1 ⟨rfl, b1⟩
  go_wp2_with fail
  go_ret
  exact ⟨rfl, b1⟩
set_option maxHeartbeats 8000000 in
set_option maxRecDepth 100000 in
theorem holds_any (n a : Nat) (all : Bool) (vc vs : Value) (L : List Nat) (l : List Ed) (w : World) (hE : Env w) (hc : Nums w vc (clos l n)) (hs : Nums w vs L) (hL : ∀ c ∈ L, c < 2 ^ n) (hLl : L.length ≤ 1048576) (hg : P2.Good (n : Int) l) (hn : n ≤ 8) (ha : a < 2 ^ n) :
    Calls Tryd.prog 100 #[watV all vc vs, .int .u64 (a : Int)] w fun e w' => e = .returned (.bool (holdB n l all L a)) ∧ Below w.heap.size w w' := by
  have hmf : ∀ (fn : Fn) (first cap : Array Value) (w : World), (Instr.makeFunc fn first cap).run Tryd.prog w = .ok (.func fn first cap) w := fun _ _ _ _ => rfl
  obtain ⟨A3, c3, rfl, -⟩ := hc.form
  have hlen := clos_len l n
  obtain ⟨W0, hW0⟩ : ∃ W0, W0 = (w.alloc (.cells #[.slice A3 n c3, .func (.func (ruleF all)) #[] #[], vs] 67)).alloc (.cells #[.int .u64 (a : Int)] 70) := ⟨_, rfl⟩
  have b0 : Below w.heap.size w W0 := by rw [hW0]; exact ((Below.refl _ _).alloc (Nat.le_refl _) _).alloc (by simp) _
  have g1 : Blk W0 w.heap.size 67 #[.slice A3 n c3, .func (.func (ruleF all)) #[] #[], vs] := by rw [hW0]; exact (Blk.new w 67 #[.slice A3 n c3, .func (.func (ruleF all)) #[] #[], vs]).alloc _
  have g2 : Blk W0 (w.heap.size + 1) 70 #[.int .u64 (a : Int)] := by
    have h_ := Blk.new (w.alloc (.cells #[.slice A3 n c3, .func (.func (ruleF all)) #[] #[], vs] 67)) 70 #[.int .u64 (a : Int)]
    rw [World.size_alloc] at h_
    rw [hW0]; exact h_
  have HC : Hid (∀ W, Below w.heap.size w W → Nums W (.slice A3 n c3) (clos l n)) := fun W hW => by
    have h_ := hc.below hW
    unfold Nums at h_ ⊢
    rw [hlen] at h_ ⊢
    exact h_
  have HS := Lib.hid hs
  have HEN := Lib.hid hE
  have HLM := Lib.hid hL
  have HGD := Lib.hid hg
  have HB0 := Lib.hid b0
  have HG1 := Lib.hid g1
  have HG2 := Lib.hid g2
  have HW0 := Lib.hid hW0
  have HK0 : Hid ((List.range 0).all (fun x => a.testBit x || L.any (ansB l all x a)) = true) := rfl
  have HV : Hid (holdB n l all L a = (List.range n).all (fun x => a.testBit x || L.any (ansB l all x a))) := rfl
  have hsuc : ∀ k, (List.range (k + 1)).all (fun x => a.testBit x || L.any (ansB l all x a)) = ((List.range k).all (fun x => a.testBit x || L.any (ansB l all x a)) && (a.testBit k || L.any (ansB l all k a))) := fun k => by
    rw [List.range_succ, List.all_append]; simp
  have HSU := Lib.hid hsuc
  have HNO : Hid (∀ k, k < n → (a.testBit k || L.any (ansB l all k a)) = false → holdB n l all L a = false) := fun k hk h => by
    show (List.range n).all _ = false
    rw [List.all_eq_false]
    exact ⟨k, List.mem_range.2 hk, by rw [h]; decide⟩
  have ha8 := Nat.lt_of_lt_of_le ha (pow_le hn)
  obtain ⟨p0, p1, p2⟩ := blkW g1
  have q0 := g2.cell 0
  rw [hW0] at p0 p1 p2 q0
  unfold watV
  rw [hlen]
  clear hE hc hs hL hg b0 g1 g2 hW0 hsuc hlen
  go_enter Tryd.func100, Tryd.ntmps100
  go_wp2_with fail
  rw [← HW0.out]
  clear p0 p1 p2 q0
  go_loopg [10] n (fun g iv wr => ∃ k : Nat, k + g = n ∧ iv = .int .i64 (k : Int) ∧ Hid ((List.range k).all (fun x => a.testBit x || L.any (ansB l all x a)) = true) ∧ Blk wr w.heap.size 67 #[.slice A3 n c3, .func (.func (ruleF all)) #[] #[], vs] ∧ Blk wr (w.heap.size + 1) 70 #[.int .u64 (a : Int)] ∧ Below w.heap.size w wr)
  case atStart => exact ⟨0, by omega, rfl, HK0, HG1.out, HG2.out, HB0.out⟩
  case round =>
    clear HK0 HG1 HG2 HB0
    obtain ⟨k, hkg, rfl, hal, hg1, hg2, hB⟩ := hrel
    obtain ⟨p0, p1, p2⟩ := blkW hg1
    have q0 := hg2.cell 0
    have HB := Lib.hid hB
    cases gk with
    | zero =>
      obtain rfl : k = n := by omega
      have HV2 : Hid (holdB k l all L a = true) := hal.out
      clear hg1 hg2 hB
      go_wp2_with fail
      go_ret
      rw [HV2.out]
      exact ⟨rfl, HB.out⟩
    | succ g2_ =>
      have hlt : k < n := by omega
      have hlt' : (k : Int) < (n : Int) := by omega
      obtain ⟨W1, hW1⟩ : ∃ W1, W1 = wr.alloc (.cells #[.int .i64 (k : Int)] 3) := ⟨_, rfl⟩
      have d1 : Below wr.heap.size wr W1 := by rw [hW1]; exact (Below.refl _ _).alloc (Nat.le_refl _) _
      have HB1 := Lib.hid (btrans hB d1)
      have HG1 := Lib.hid (hg1.below d1 hg1.lt)
      have HG2 := Lib.hid (hg2.below d1 hg2.lt)
      have HG3 : Hid (Blk W1 wr.heap.size 3 #[.int .i64 (k : Int)]) := by show Blk _ _ _ _; rw [hW1]; exact Blk.new wr _ _
      obtain ⟨r0, r1, r2⟩ := blkW HG1.out
      have s0 := HG2.out.cell 0
      have s1 := HG3.out.cell 0
      have HH := Lib.hid (fun (W : World) => has_any a k W (by omega) (by omega))
      have HCF := Lib.hid (containsUU_any vs L 126 #[.pointer (some ⟨w.heap.size, 0, none⟩), .pointer (some ⟨w.heap.size + 1, 0, none⟩), .pointer (some ⟨wr.heap.size, 0, none⟩)] (ansB l all k a) W1 (HS.out.below HB1.out) hLl
        { enter := fun _ _ => by kernel_rfl
          call := fun W hW b hb => holdsClo_any n a b k w.heap.size (w.heap.size + 1) wr.heap.size all (.slice A3 n c3) vs l W (HG1.out.below hW HG1.out.lt) ((HG2.out.below hW HG2.out.lt).cell 0) ((HG3.out.below hW HG3.out.lt).cell 0) (HEN.out.next (btrans HB1.out hW)) (HC.out W (btrans HB1.out hW)) HGD.out hn ha (HLM.out b hb) (by omega) })
      have HW1 := Lib.hid hW1
      rw [hW1] at r0 r1 r2 s0 s1
      have hsk := HSU.out k
      rw [hal.out, Bool.true_and] at hsk
      have HSK := Lib.hid hsk
      clear hg1 hg2 hB d1 hW1 hsk p1
      cases hb1 : a.testBit k with
      | true =>
        have HK : Hid ((List.range (k + 1)).all (fun x => a.testBit x || L.any (ansB l all x a)) = true) := by show _ = _; rw [HSK.out, hb1]; rfl
        rw [hb1] at HH
        clear hb1
        go_wp2_with fail
        refine (HH.out _).mono ?_
        rintro e w' ⟨rfl, rfl⟩
        go_wp2_with fail
        rw [← HW1.out]
        clear p0 p2 q0 r0 r1 r2 s0 s1
        go_roundg g2_
        case measure => omega
        case rel => exact ⟨k + 1, by omega, by go_num, HK, HG1.out, HG2.out, HB1.out⟩
      | false =>
        rw [hb1] at HH
        cases hb2 : L.any (ansB l all k a) with
        | true =>
          have HK : Hid ((List.range (k + 1)).all (fun x => a.testBit x || L.any (ansB l all x a)) = true) := by show _ = _; rw [HSK.out, hb1, hb2]; rfl
          rw [hb2] at HCF
          clear hb1 hb2
          go_wp2_with fail
          refine (HH.out _).mono ?_
          rintro e w' ⟨rfl, rfl⟩
          go_wp2_with fail
          rw [← HW1.out]
          refine HCF.out.mono ?_
          rintro e w2 ⟨rfl, b2⟩
          have HB2 := Lib.hid (btrans HB1.out b2)
          have HG1b := Lib.hid (HG1.out.below b2 HG1.out.lt)
          have HG2b := Lib.hid (HG2.out.below b2 HG2.out.lt)
          clear p0 p2 q0 r0 r1 r2 s0 s1 b2
          go_wp2_with fail
          go_roundg g2_
          case measure => omega
          case rel => exact ⟨k + 1, by omega, by go_num, HK, HG1b.out, HG2b.out, HB2.out⟩
        | false =>
          have HF := Lib.hid (HNO.out k hlt (by rw [hb1, hb2]; rfl))
          rw [hb2] at HCF
          clear hb1 hb2
          go_wp2_with fail
          refine (HH.out _).mono ?_
          rintro e w' ⟨rfl, rfl⟩
          go_wp2_with fail
          rw [← HW1.out]
          refine HCF.out.mono ?_
          rintro e w2 ⟨rfl, b2⟩
          clear p0 p2 q0 r0 r1 r2 s0 s1
          go_wp2_with fail
          first | go_ret | (rw [Exit.noGoto_ret]; go_ret)
          rw [HF.out]
          exact ⟨rfl, btrans HB1.out b2⟩
end Go.Proofs.YtdhbaegkogklgaaDoor.ups
