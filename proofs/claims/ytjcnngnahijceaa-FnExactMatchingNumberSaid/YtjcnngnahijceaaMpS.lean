/- MatchingNumber: the contracts of the model's l9Match and MatchingNumber. -/
import Derived.Handy
import Derived.Test.YtjcnngnahijceaaMpI
import Derived.Test.YtjcnngnahijceaaBall
import Derived.Test.YtjcnngnahijceaaTimeT
import Derived.Test.YtjcnngnahijceaaMinMax
import Derived.Test.YtjcnngnahijceaaTrip
import Derived.Maps.AppendAt
import Derived.Deep.DeepCutAuto
import Derived.Deep.RegionHeld3
import Derived.Deep.QuietTactic
namespace Go.Proofs.Ytjcnngnahijceaa.mps
open Go.RowKit P2 words edges ints good adjs fns sets rets covs bitsI balls apps trip
set_option linter.unusedVariables false

theorem edge_len {s : Int} {l : List Ed} (h : P2.Good s l) : l.length ≤ 64 := by
  have hp := h.sorted
  have hnd : (l.map fun e => (e.1 * 8 + e.2).toNat).Nodup := by
    rw [List.Nodup, List.pairwise_map]
    refine hp.imp_of_mem ?_
    intro a b ha hb hab
    have h1 := h.mem ha
    have h2 := h.mem hb
    have := h.2.1
    rcases hab with hab | ⟨hab, hab2⟩ <;> omega
  have hsub : (l.map fun e => (e.1 * 8 + e.2).toNat) ⊆ List.range 64 := by
    intro a ha
    obtain ⟨e, he, rfl⟩ := List.mem_map.1 ha
    have h1 := h.mem he
    have := h.2.1
    exact List.mem_range.2 (by omega)
  have := hnd.length_le_of_subset hsub
  simpa using this
/-- a list of nodes -/
def NdOk (xs : List Int) : Prop := ∀ x ∈ xs, 0 ≤ x ∧ x < 8
theorem NdOk.put {xs : List Int} {e : Ed} (h : NdOk xs) (he : 0 ≤ e.1 ∧ e.1 < 8 ∧ 0 ≤ e.2 ∧ e.2 < 8) : NdOk (xs ++ [e.1] ++ [e.2]) := fun x hx => by
  simp at hx
  rcases hx with hx | rfl | rfl
  · exact h x hx
  · omega
  · omega
theorem free_mem {xs : List Int} {e : Ed} (h : NdOk xs) (he : 0 ≤ e.1 ∧ e.1 < 8 ∧ 0 ≤ e.2 ∧ e.2 < 8) : freeB e (codeL xs) = (!decide (e.1 ∈ xs) && !decide (e.2 ∈ xs)) := by
  unfold freeB
  rw [code_bit (fun x hx => (h x hx).1), code_bit (fun x hx => (h x hx).1), show ((e.1.toNat : Nat) : Int) = e.1 from by omega, show ((e.2.toNat : Nat) : Int) = e.2 from by omega]
theorem code_put {xs : List Int} {e : Ed} (h : NdOk xs) (he : 0 ≤ e.1 ∧ e.1 < 8 ∧ 0 ≤ e.2 ∧ e.2 < 8) : codeL (xs ++ [e.1] ++ [e.2]) = codeL xs ||| pairN e := by
  apply Nat.eq_of_testBit_eq
  intro k
  rw [Nat.testBit_or, code_bit (fun x hx => (h.put he x hx).1), code_bit (fun x hx => (h x hx).1), pair_bit he.1 he.2.2.1, Bool.eq_iff_iff]
  simp only [Bool.or_eq_true, decide_eq_true_eq, List.mem_append, List.mem_singleton]
  exact or_assoc
set_option maxHeartbeats 8000000 in
set_option maxRecDepth 100000 in
theorem l9Match_any (s : Int) (m : Nat) : ∀ (l : List Ed) (k0 : Nat) (xs : List Int) (v u : Value) (w : World), l.length - k0 ≤ m → k0 ≤ l.length → Edges w v l → l.length ≤ 64 → EdOk l → Ints w u xs → NdOk xs → xs.length ≤ 2 * k0 →
    Calls Try.prog 68 #[.agg #[.int .i64 s, v], .int .i64 (k0 : Int), u] w fun e w' => e = .returned (.int .i64 (mpN (l.drop k0) (codeL xs) : Int)) ∧ Below w.heap.size w w' := by
  obtain ⟨i0, hi, hz0, hz1, hz2⟩ := info_parts infoInt
  induction m with
  | zero =>
    intro l k0 xs v u w hm hk0 h hl hok hu hnd hxl
    obtain ⟨A, c, rfl, -⟩ := h.form
    obtain rfl : k0 = l.length := by omega
    have HB0 : Hid (Below w.heap.size w (w.alloc (.cells #[.int .i64 s, .slice A l.length c] 28))) := (Below.refl _ _).alloc (Nat.le_refl _) _
    have HG0 := Lib.hid (Blk.new w 28 #[.int .i64 s, .slice A l.length c])
    have HV : Hid (mpN (l.drop l.length) (codeL xs) = 0) := by show _ = _; rw [List.drop_length]; rfl
    rw [HV.out]
    clear h hok hu hnd hm hxl HV
    go_enter Try.func68, Try.ntmps68
    go_wp2_with fail
    go_loopg [7, 8] 0 (fun g bv iv wr => bv = .int .i64 0 ∧ iv = .int .i64 (l.length : Int) ∧ Blk wr w.heap.size 28 #[.int .i64 s, .slice A l.length c] ∧ Below w.heap.size w wr)
    case atStart => exact ⟨rfl, rfl, HG0.out, HB0.out⟩
    case round =>
      obtain ⟨rfl, rfl, hgb, hB⟩ := hrel
      obtain ⟨p0, p1, -, -⟩ := hgb.two
      go_wp2_with fail
      go_ret
      exact ⟨rfl, hB⟩
  | succ m ih =>
    intro l k0 xs v u w hm hk0 h hl hok hu hnd hxl
    obtain ⟨A, c, rfl, hcells⟩ := h.form
    have HE := Lib.hid h
    have HC := Lib.hid hcells
    have HOK := Lib.hid hok
    have HU := Lib.hid hu
    have HND := Lib.hid hnd
    have HIH := Lib.hid ih
    have HB0 : Hid (Below w.heap.size w (w.alloc (.cells #[.int .i64 s, .slice A l.length c] 28))) := (Below.refl _ _).alloc (Nat.le_refl _) _
    have HG0 := Lib.hid (Blk.new w 28 #[.int .i64 s, .slice A l.length c])
    have H0 : Hid (max 0 (mpN (l.drop k0) (codeL xs)) = mpN (l.drop k0) (codeL xs)) := by show max 0 _ = _; omega
    have HLE := Lib.hid (mpN_le (l.drop k0) (codeL xs))
    have hdl : (l.drop k0).length = l.length - k0 := List.length_drop ..
    rw [hdl] at HLE
    clear h hcells hok hu hnd ih hdl
    generalize hTT : mpN (l.drop k0) (codeL xs) = T at *
    have HTT := Lib.hid hTT
    clear hTT
    go_enter Try.func68, Try.ntmps68
    go_wp2_with fail
    go_loopg [7, 8] (l.length - k0) (fun g bv iv wr => ∃ k b : Nat, k + g = l.length ∧ k0 ≤ k ∧ bv = .int .i64 (b : Int) ∧ iv = .int .i64 (k : Int) ∧ Hid (max b (mpN (l.drop k) (codeL xs)) = T) ∧ Blk wr w.heap.size 28 #[.int .i64 s, .slice A l.length c] ∧ Below w.heap.size w wr)
    case atStart => exact ⟨k0, 0, by omega, Nat.le_refl _, rfl, rfl, by rw [HTT.out]; exact H0, HG0.out, HB0.out⟩
    case round =>
      clear H0 HG0 HB0
      obtain ⟨k, b, hkg, hkk, rfl, rfl, hmx, hgb, hB⟩ := hrel
      obtain ⟨p0, p1, -, -⟩ := hgb.two
      have HG := Lib.hid hgb
      have HB := Lib.hid hB
      cases gk with
      | zero =>
        obtain rfl : k = l.length := by omega
        have HV := Lib.hid (mp_end hmx.out)
        clear hB hgb
        go_wp2_with fail
        go_ret
        exact ⟨ret_int (by rw [HV.out]), HB.out⟩
      | succ g2 =>
        have hlt : k < l.length := by omega
        have hlt' : (k : Int) < (l.length : Int) := by omega
        obtain ⟨e, he⟩ : ∃ e, l[k]? = some e := ⟨_, List.getElem?_eq_getElem hlt⟩
        obtain ⟨g5, o5, rfl, c0, c1⟩ := HC.out k e he
        have q0 := nearv.cell_keep c0 hB
        have q1 := nearv.cell_keep c1 hB
        have hee := HOK.out e (List.mem_of_getElem? he)
        have HFM := Lib.hid (free_mem HND.out hee)
        have HMY := Lib.hid (fun (hf : freeB e (codeL xs) = true) => mp_yes he hf hmx.out)
        have HMN := Lib.hid (fun (hf : freeB e (codeL xs) = false) => mp_no he hf hmx.out)
        have hble : b ≤ T := by have := hmx.out; omega
        have hmle := HLE.out
        have HGD := Lib.hid (fun nq => HG.out.drewN nq)
        have HBD := Lib.hid (fun nq => below_drewN hB nq)
        have HH := Lib.hid (fun (nq : Nat) (x : Int) => l1Has_any u xs x (wr.drewN nq) (HU.out.below (below_drewN hB nq)) (by omega))
        clear he c0 c1 hgb hB hmx
        cases ha : decide (e.1 ∈ xs) with
        | true =>
          have HN := Lib.hid (HMN.out (by rw [HFM.out, ha]; rfl))
          have HA := Lib.hid (fun nq => HH.out nq e.1)
          rw [ha] at HA
          clear ha
          go_wp2_with fail
          go_quiet (fail)
          go_wp2_with fail
          refine (HA.out _).mono ?_
          rintro e_ w' ⟨rfl, rfl⟩
          go_wp2_with fail
          go_roundg g2
          case measure => omega
          case rel => exact ⟨k + 1, b, by omega, by omega, rfl, by go_num, HN, HGD.out _, HBD.out _⟩
        | false =>
          cases hb : decide (e.2 ∈ xs) with
          | true =>
            have HN := Lib.hid (HMN.out (by rw [HFM.out, ha, hb]; rfl))
            have HA := Lib.hid (fun nq => HH.out nq e.1)
            have HA2 := Lib.hid (fun nq => HH.out nq e.2)
            rw [ha] at HA
            rw [hb] at HA2
            clear ha hb
            go_wp2_with fail
            go_quiet (fail)
            go_wp2_with fail
            refine (HA.out _).mono ?_
            rintro e_ w' ⟨rfl, rfl⟩
            go_wp2_with fail
            refine (HA2.out _).mono ?_
            rintro e_ w' ⟨rfl, rfl⟩
            go_wp2_with fail
            go_roundg g2
            case measure => omega
            case rel => exact ⟨k + 1, b, by omega, by omega, rfl, by go_num, HN, HGD.out _, HBD.out _⟩
          | false =>
            have HN := Lib.hid (HMY.out (by rw [HFM.out, ha, hb]; rfl))
            have HA := Lib.hid (fun nq => HH.out nq e.1)
            have HA2 := Lib.hid (fun nq => HH.out nq e.2)
            rw [ha] at HA
            rw [hb] at HA2
            clear ha hb
            go_wp2_with fail
            go_quiet (fail)
            go_wp2_with fail
            refine (HA.out _).mono ?_
            rintro e_ w' ⟨rfl, rfl⟩
            go_wp2_with fail
            refine (HA2.out _).mono ?_
            rintro e_ w' ⟨rfl, rfl⟩
            go_wp2_with fail
            --GEN
            have hwk : IntKind.i64.wrap ((k : Int) + 1) = ((k + 1 : Nat) : Int) := by rw [show (k : Int) + 1 = ((k + 1 : Nat) : Int) from by omega]; exact IntWalk.i64_in _ (by omega)
            have HGQ := Lib.hid (HGD.out nq)
            have HBQ := Lib.hid (HBD.out nq)
            generalize hwq : wr.drewN nq = wq at *
            have HWQ := Lib.hid hwq
            clear hwq p0 p1 q0 q1
            obtain ⟨p0, p1, -, -⟩ := HGQ.out.two
            have HSK : Hid (∀ W', Below wq.heap.size wq W' → (fun w' : World => w'.cell? ⟨w.heap.size, 0, none⟩ = some (.int .i64 s) ∧ w'.cell? ⟨w.heap.size, 1, none⟩ = some (.slice (some ⟨g5, o5, none⟩) l.length c)) W') := fun W' hW => by obtain ⟨a_, b_, -, -⟩ := (HGQ.out.below hW HGQ.out.lt).two; exact ⟨a_, b_⟩
            have HOW := Lib.hid (fun (W : World) (hW : Below wq.heap.size wq W) => times.l1Own_any u xs W ((HU.out.below HBQ.out).below hW) (by omega))
            have HREC := Lib.hid (fun (W : World) (hW : Below wq.heap.size wq W) (v9 : Value) (hv : Ints W v9 (xs ++ [e.1] ++ [e.2])) => HIH.out l (k + 1) (xs ++ [e.1] ++ [e.2]) (.slice (some ⟨g5, o5, none⟩) l.length c) v9 W (by omega) (by omega) ((HE.out.below HBQ.out).below hW) hl HOK.out hv (HND.out.put hee) (by rw [List.length_append, List.length_append, List.length_singleton, List.length_singleton]; omega))
            have HCP := Lib.hid (code_put HND.out hee)
            rw [HCP.out] at HREC
            rw [show ((k + 1 : Nat) : Int) = (k : Int) + 1 from by omega] at HREC
            have hr0 := mpN_le (l.drop (k + 1)) (codeL xs ||| pairN e)
            rw [List.length_drop] at hr0
            generalize mpN (l.drop (k + 1)) (codeL xs ||| pairN e) = r at *
            have hw : IntKind.i64.wrap (1 + (r : Int)) = ((1 + r : Nat) : Int) := by rw [show 1 + (r : Int) = ((1 + r : Nat) : Int) from by omega]; exact IntWalk.i64_in _ (by omega)
            have HMO := Lib.hid (fun (W : World) => minmax.l1Most_any (b : Int) ((1 + r : Nat) : Int) W)
            rw [show max (b : Int) ((1 + r : Nat) : Int) = ((max b (1 + r) : Nat) : Int) from by omega] at HMO
            generalize hb2 : max b (1 + r) = b2 at *
            have HB2 := Lib.hid hb2
            clear hb2
            generalize hr1 : 1 + r = r1 at *
            have HR1 := Lib.hid hr1
            clear hr1
            have bq0 : Below wq.heap.size wq wq.drew := (Below.refl _ _).drew
            refine wp_region_held_drew (S := (fun w' : World => w'.cell? ⟨w.heap.size, 0, none⟩ = some (.int .i64 s) ∧ w'.cell? ⟨w.heap.size, 1, none⟩ = some (.slice (some ⟨g5, o5, none⟩) l.length c))) (by kernel_rfl) (by (try dsimp only); simp [*]) (fun hHeld => ?_)
            change wpAnyH _ _ _ _ _ _ #[false, false, false, false, false, false, false, false, false, false, false, false, false, false, false, false] _ _
            refine wpAnyH_take (i := 0) (oi := ⟨some 41, _, _, _, _, _⟩) (v := ?_) rfl (by kernel_rfl) (by kernel_rfl) (by kernel_rfl) (fun _ _ _ h => h) (Or.inl ⟨by rfl, ?_⟩) (by assumption) ?_
            rotate_left
            · (intro w hSw; (try dsimp only at hSw); go_simp; (try (with_reducible rfl)))
            try simp only [Act.put, List.setIfInBounds_toArray, List.set_cons_zero, List.set_cons_succ]
            refine wpAnyH_take (i := 1) (oi := ⟨some 42, _, _, _, _, _⟩) (v := ?_) rfl (by kernel_rfl) (by kernel_rfl) (by kernel_rfl) (fun _ _ _ h => h) (Or.inl ⟨by rfl, ?_⟩) (by assumption) ?_
            rotate_left
            · (intro w hSw; (try dsimp only at hSw); go_simp; (try (with_reducible rfl)))
            try simp only [Act.put, List.setIfInBounds_toArray, List.set_cons_zero, List.set_cons_succ]
            refine wpAnyH_take (i := 2) (oi := ⟨some 43, _, _, _, _, _⟩) (v := ?_) rfl (by kernel_rfl) (by kernel_rfl) (by kernel_rfl) (fun _ _ _ h => h) (Or.inl ⟨by rfl, ?_⟩) (by assumption) ?_
            rotate_left
            · (intro w hSw; (try dsimp only at hSw); go_simp; (try (with_reducible rfl)))
            try simp only [Act.put, List.setIfInBounds_toArray, List.set_cons_zero, List.set_cons_succ]
            refine wpAnyH_take (i := 3) (oi := ⟨some 44, _, _, _, _, _⟩) (v := ?_) rfl (by kernel_rfl) (by kernel_rfl) (by kernel_rfl) (fun _ _ _ h => h) (Or.inl ⟨by rfl, ?_⟩) (by assumption) ?_
            rotate_left
            · (intro w hSw; (try dsimp only at hSw); go_simp; (try (with_reducible rfl)))
            try simp only [Act.put, List.setIfInBounds_toArray, List.set_cons_zero, List.set_cons_succ]
            refine wpAnyH_take (i := 4) (oi := ⟨some 45, _, _, _, _, _⟩) (v := ?_) rfl (by kernel_rfl) (by kernel_rfl) (by kernel_rfl) (fun _ _ _ h => h) (Or.inl ⟨by rfl, ?_⟩) (by assumption) ?_
            rotate_left
            · (intro w hSw; (try dsimp only at hSw); go_simp; (try (with_reducible rfl)))
            try simp only [Act.put, List.setIfInBounds_toArray, List.set_cons_zero, List.set_cons_succ]
            refine wpAnyH_take (i := 6) (oi := ⟨some 47, _, _, _, _, _⟩) (v := ?_) rfl (by kernel_rfl) (by kernel_rfl) (by kernel_rfl) (fun _ _ _ h => h) (Or.inl ⟨by rfl, ?_⟩) (by assumption) ?_
            rotate_left
            · (intro w hSw; (try dsimp only at hSw); go_simp; (try (with_reducible rfl)))
            try simp only [Act.put, List.setIfInBounds_toArray, List.set_cons_zero, List.set_cons_succ]
            refine wpAnyH_take (i := 9) (oi := ⟨some 50, _, _, _, _, _⟩) (v := ?_) rfl (by kernel_rfl) (by kernel_rfl) (by kernel_rfl) (fun _ _ _ h => h) (Or.inl ⟨by rfl, ?_⟩) (by assumption) ?_
            rotate_left
            · (intro w hSw; (try dsimp only at hSw); go_simp; (try (with_reducible rfl)))
            try simp only [Act.put, List.setIfInBounds_toArray, List.set_cons_zero, List.set_cons_succ]
            refine wpAnyH_ready (rs := [5, 7, 10]) (by kernel_rfl) (by simp) ?_
            refine AllReadyH.cons (o := ⟨some 46, _, _, _, _, _⟩) rfl (fun K hK => ?_) (AllReadyH.cons (o := ⟨some 48, _, _, _, _, _⟩) rfl (fun K hK => ?_) (AllReadyH.cons (o := ⟨some 51, _, _, _, _, _⟩) rfl (fun K hK => ?_) AllReadyH.nil))
            · go_simp
              (with_reducible refine (HOW.out _ bq0).mono ?_)
              rintro e_ w5_0 ⟨A5_0, c5_0, rfl, o5_0, b5_0⟩
              have bl_0 := btrans bq0 b5_0
              have oo_0 := own_base (B' := wq.heap.size) o5_0 bq0.size
              go_wp2_with fail
              refine hK.out _ _ (HSK.out _ bl_0) (fun hHeld => ?_)
              clear hK K
              try simp only [List.setIfInBounds_toArray, List.set_cons_zero, List.set_cons_succ]
              refine wpAnyH_ready (rs := [7, 10]) (by kernel_rfl) (by simp) ?_
              refine AllReadyH.cons (o := ⟨some 48, _, _, _, _, _⟩) rfl (fun K hK => ?_) (AllReadyH.cons (o := ⟨some 51, _, _, _, _, _⟩) rfl (fun K hK => ?_) AllReadyH.nil)
              · go_simp
                have bl_1 : Below wq.heap.size wq (w5_0.alloc (.cells #[.int .i64 e.1] 3)) := bl_0.alloc bl_0.size _
                have yn_1 : Blk (w5_0.alloc (.cells #[.int .i64 e.1] 3)) (w5_0.heap.size) 3 #[.int .i64 e.1] := by have t_ := Blk.new w5_0 3 #[.int .i64 e.1]; (try rw [World.size_alloc] at t_); (try rw [World.size_alloc] at t_); exact t_
                have oo_1 := oo_0.alloc (.cells #[.int .i64 e.1] 3)
                refine hK.out _ _ (HSK.out _ bl_1) (fun hHeld => ?_)
                clear hK K
                try simp only [List.setIfInBounds_toArray, List.set_cons_zero, List.set_cons_succ]
                refine wpAnyH_ready (rs := [8, 10]) (by kernel_rfl) (by simp) ?_
                refine AllReadyH.cons (o := ⟨some 49, _, _, _, _, _⟩) rfl (fun K hK => ?_) (AllReadyH.cons (o := ⟨some 51, _, _, _, _, _⟩) rfl (fun K hK => ?_) AllReadyH.nil)
                · refine step_append_any _ rfl (.tmp 46) (.tmp 48) 32 rfl wq.heap.size 3 i0 (.int .i64 0) 1 8 Try.underlying32 hi hz0 hz1 hz2 rfl (by decide) (.slice A5_0 xs.length c5_0) (xs.length) (cellsI xs) rfl oo_1 (.slice (some ⟨w5_0.heap.size, 0, none⟩) 1 1) 1 [.int .i64 e.1] rfl (one_readsV yn_1) rfl (by intro x_ hx_; rw [List.mem_singleton.1 hx_]; rfl) (by unfold maxLen; omega) (by omega) bl_1.size ?_
                  intro v_2 w8_2 o8_2 g8_2
                  have bl_2 := bl_1.grown g8_2 bl_1.size (fun q hq => (oo_1.lt q hq).1)
                  refine hK.out _ _ (HSK.out _ bl_2) (fun hHeld => ?_)
                  clear hK K
                  try simp only [Act.put, List.setIfInBounds_toArray, List.set_cons_zero, List.set_cons_succ]
                  refine wpAnyH_ready (rs := [10]) (by kernel_rfl) (by simp) ?_
                  refine AllReadyH.cons (o := ⟨some 51, _, _, _, _, _⟩) rfl (fun K hK => ?_) AllReadyH.nil
                  · go_simp
                    have bl_3 : Below wq.heap.size wq (w8_2.alloc (.cells #[.int .i64 e.2] 3)) := bl_2.alloc bl_2.size _
                    have yn_3 : Blk (w8_2.alloc (.cells #[.int .i64 e.2] 3)) (w8_2.heap.size) 3 #[.int .i64 e.2] := by have t_ := Blk.new w8_2 3 #[.int .i64 e.2]; (try rw [World.size_alloc] at t_); (try rw [World.size_alloc] at t_); exact t_
                    have oo_3 := o8_2.alloc (.cells #[.int .i64 e.2] 3)
                    refine hK.out _ _ (HSK.out _ bl_3) (fun hHeld => ?_)
                    clear hK K
                    try simp only [List.setIfInBounds_toArray, List.set_cons_zero, List.set_cons_succ]
                    refine wpAnyH_ready (rs := [11]) (by kernel_rfl) (by simp) ?_
                    refine AllReadyH.cons (o := ⟨some 52, _, _, _, _, _⟩) rfl (fun K hK => ?_) AllReadyH.nil
                    · refine step_append_any _ rfl (.tmp 49) (.tmp 51) 32 rfl wq.heap.size 3 i0 (.int .i64 0) 1 8 Try.underlying32 hi hz0 hz1 hz2 rfl (by decide) v_2 (xs.length + 1) ((cellsI xs) ++ [.int .i64 e.1]) rfl oo_3 (.slice (some ⟨w8_2.heap.size, 0, none⟩) 1 1) 1 [.int .i64 e.2] rfl (one_readsV yn_3) rfl (by intro x_ hx_; rw [List.mem_singleton.1 hx_]; rfl) (by unfold maxLen; omega) (by omega) bl_3.size ?_
                      intro v_4 w8_4 o8_4 g8_4
                      have bl_4 := bl_3.grown g8_4 bl_3.size (fun q hq => (oo_3.lt q hq).1)
                      refine hK.out _ _ (HSK.out _ bl_4) (fun hHeld => ?_)
                      clear hK K
                      try simp only [Act.put, List.setIfInBounds_toArray, List.set_cons_zero, List.set_cons_succ]
                      have o9 := o8_4
                      have e9 := bl_4
                      obtain ⟨w9, hw9⟩ : ∃ w9, w9 = w8_4 := ⟨_, rfl⟩
                      obtain ⟨v9, hv9⟩ : ∃ v9, v9 = v_4 := ⟨_, rfl⟩
                      subst hw9 hv9
                      have hv9 : Ints w9 v9 (xs ++ [e.1] ++ [e.2]) := by
                        show Reads _ _ _ _ _
                        rw [cellsI_app, cellsI_app, List.length_append, List.length_append]
                        exact Reads.of_own o9
                      refine wpAnyH_ready (rs := [12]) (by kernel_rfl) (by simp) ?_
                      refine AllReadyH.cons (o := ⟨some 53, _, _, _, _, _⟩) rfl (fun K hK => ?_) AllReadyH.nil
                      go_simp
                      (with_reducible refine (HREC.out _ e9 v9 hv9).mono ?_)
                      rintro e_ w10 ⟨rfl, b10⟩
                      have e10 := btrans e9 b10
                      go_wp2_with fail
                      refine hK.out _ _ (HSK.out _ e10) (fun hHeld => ?_)
                      clear hK K
                      try simp only [List.setIfInBounds_toArray, List.set_cons_zero, List.set_cons_succ]
                      refine wpAnyH_take (i := 13) (oi := ⟨some 54, _, _, _, _, _⟩) (v := ?_) rfl (by kernel_rfl) (by kernel_rfl) (by kernel_rfl) (fun _ _ _ h => h) (Or.inl ⟨by rfl, ?_⟩) (by assumption) ?_
                      rotate_left
                      · (intro w hSw; (try dsimp only at hSw); go_simp; (try (with_reducible rfl)))
                      try simp only [Act.put, List.setIfInBounds_toArray, List.set_cons_zero, List.set_cons_succ]
                      refine wpAnyH_ready (rs := [14]) (by kernel_rfl) (by simp) ?_
                      refine AllReadyH.cons (o := ⟨some 55, _, _, _, _, _⟩) rfl (fun K hK => ?_) AllReadyH.nil
                      go_simp
                      (with_reducible refine (HMO.out w10).mono ?_)
                      rintro e_ w' ⟨rfl, rfl⟩
                      go_wp2_with fail
                      refine hK.out _ _ (HSK.out _ e10) (fun hHeld => ?_)
                      clear hK K
                      try simp only [List.setIfInBounds_toArray, List.set_cons_zero, List.set_cons_succ]
                      refine wpAnyH_take (i := 15) (oi := ⟨some 7, _, _, _, _, _⟩) (v := ?_) rfl (by kernel_rfl) (by kernel_rfl) (by kernel_rfl) (fun _ _ _ h => h) (Or.inl ⟨by rfl, ?_⟩) (by assumption) ?_
                      rotate_left
                      · (intro w hSw; (try dsimp only at hSw); go_simp; (try (with_reducible rfl)))
                      try simp only [Act.put, List.setIfInBounds_toArray, List.set_cons_zero, List.set_cons_succ]
                      refine wpAnyH_done (by kernel_rfl) ?_ _
                      have HG10 := Lib.hid (HGQ.out.below e10 HGQ.out.lt)
                      have HB10 := Lib.hid (btrans HBQ.out e10)
                      have HN2 : Hid (max b2 (mpN (l.drop (k + 1)) (codeL xs)) = T) := HN.out
                      go_wp2_with fail
                      go_roundg g2
                      case measure => omega
                      case rel => exact ⟨k + 1, b2, by omega, by omega, rfl, by go_num, HN2, HG10.out, HB10.out⟩
                · go_simp
                  have bl_5 : Below wq.heap.size wq ((w5_0.alloc (.cells #[.int .i64 e.1] 3)).alloc (.cells #[.int .i64 e.2] 3)) := bl_1.alloc bl_1.size _
                  have yn_5 : Blk ((w5_0.alloc (.cells #[.int .i64 e.1] 3)).alloc (.cells #[.int .i64 e.2] 3)) (w5_0.heap.size + 1) 3 #[.int .i64 e.2] := by have t_ := Blk.new (w5_0.alloc (.cells #[.int .i64 e.1] 3)) 3 #[.int .i64 e.2]; (try rw [World.size_alloc] at t_); (try rw [World.size_alloc] at t_); exact t_
                  have y1_5 : Blk ((w5_0.alloc (.cells #[.int .i64 e.1] 3)).alloc (.cells #[.int .i64 e.2] 3)) (w5_0.heap.size) 3 #[.int .i64 e.1] := yn_1.alloc (.cells #[.int .i64 e.2] 3)
                  have oo_5 := oo_1.alloc (.cells #[.int .i64 e.2] 3)
                  have ne_5 : some (w5_0.heap.size + 1) ≠ (Value.slice A5_0 xs.length c5_0).ownBlock := fun h_ => by have h1_ := (oo_1.lt _ h_.symm).2; (try rw [World.size_alloc] at h1_); omega
                  refine hK.out _ _ (HSK.out _ bl_5) (fun hHeld => ?_)
                  clear hK K
                  try simp only [List.setIfInBounds_toArray, List.set_cons_zero, List.set_cons_succ]
                  refine wpAnyH_ready (rs := [8]) (by kernel_rfl) (by simp) ?_
                  refine AllReadyH.cons (o := ⟨some 49, _, _, _, _, _⟩) rfl (fun K hK => ?_) AllReadyH.nil
                  · refine step_append_any _ rfl (.tmp 46) (.tmp 48) 32 rfl wq.heap.size 3 i0 (.int .i64 0) 1 8 Try.underlying32 hi hz0 hz1 hz2 rfl (by decide) (.slice A5_0 xs.length c5_0) (xs.length) (cellsI xs) rfl oo_5 (.slice (some ⟨w5_0.heap.size, 0, none⟩) 1 1) 1 [.int .i64 e.1] rfl (one_readsV y1_5) rfl (by intro x_ hx_; rw [List.mem_singleton.1 hx_]; rfl) (by unfold maxLen; omega) (by omega) bl_5.size ?_
                    intro v_6 w8_6 o8_6 g8_6
                    have bl_6 := bl_5.grown g8_6 bl_5.size (fun q hq => (oo_5.lt q hq).1)
                    have y2_6 := yn_5.grown g8_6 ne_5
                    refine hK.out _ _ (HSK.out _ bl_6) (fun hHeld => ?_)
                    clear hK K
                    try simp only [Act.put, List.setIfInBounds_toArray, List.set_cons_zero, List.set_cons_succ]
                    refine wpAnyH_ready (rs := [11]) (by kernel_rfl) (by simp) ?_
                    refine AllReadyH.cons (o := ⟨some 52, _, _, _, _, _⟩) rfl (fun K hK => ?_) AllReadyH.nil
                    · refine step_append_any _ rfl (.tmp 49) (.tmp 51) 32 rfl wq.heap.size 3 i0 (.int .i64 0) 1 8 Try.underlying32 hi hz0 hz1 hz2 rfl (by decide) v_6 (xs.length + 1) ((cellsI xs) ++ [.int .i64 e.1]) rfl o8_6 (.slice (some ⟨w5_0.heap.size + 1, 0, none⟩) 1 1) 1 [.int .i64 e.2] rfl (one_readsV y2_6) rfl (by intro x_ hx_; rw [List.mem_singleton.1 hx_]; rfl) (by unfold maxLen; omega) (by omega) bl_6.size ?_
                      intro v_7 w8_7 o8_7 g8_7
                      have bl_7 := bl_6.grown g8_7 bl_6.size (fun q hq => (o8_6.lt q hq).1)
                      refine hK.out _ _ (HSK.out _ bl_7) (fun hHeld => ?_)
                      clear hK K
                      try simp only [Act.put, List.setIfInBounds_toArray, List.set_cons_zero, List.set_cons_succ]
                      have o9 := o8_7
                      have e9 := bl_7
                      obtain ⟨w9, hw9⟩ : ∃ w9, w9 = w8_7 := ⟨_, rfl⟩
                      obtain ⟨v9, hv9⟩ : ∃ v9, v9 = v_7 := ⟨_, rfl⟩
                      subst hw9 hv9
                      have hv9 : Ints w9 v9 (xs ++ [e.1] ++ [e.2]) := by
                        show Reads _ _ _ _ _
                        rw [cellsI_app, cellsI_app, List.length_append, List.length_append]
                        exact Reads.of_own o9
                      refine wpAnyH_ready (rs := [12]) (by kernel_rfl) (by simp) ?_
                      refine AllReadyH.cons (o := ⟨some 53, _, _, _, _, _⟩) rfl (fun K hK => ?_) AllReadyH.nil
                      go_simp
                      (with_reducible refine (HREC.out _ e9 v9 hv9).mono ?_)
                      rintro e_ w10 ⟨rfl, b10⟩
                      have e10 := btrans e9 b10
                      go_wp2_with fail
                      refine hK.out _ _ (HSK.out _ e10) (fun hHeld => ?_)
                      clear hK K
                      try simp only [List.setIfInBounds_toArray, List.set_cons_zero, List.set_cons_succ]
                      refine wpAnyH_take (i := 13) (oi := ⟨some 54, _, _, _, _, _⟩) (v := ?_) rfl (by kernel_rfl) (by kernel_rfl) (by kernel_rfl) (fun _ _ _ h => h) (Or.inl ⟨by rfl, ?_⟩) (by assumption) ?_
                      rotate_left
                      · (intro w hSw; (try dsimp only at hSw); go_simp; (try (with_reducible rfl)))
                      try simp only [Act.put, List.setIfInBounds_toArray, List.set_cons_zero, List.set_cons_succ]
                      refine wpAnyH_ready (rs := [14]) (by kernel_rfl) (by simp) ?_
                      refine AllReadyH.cons (o := ⟨some 55, _, _, _, _, _⟩) rfl (fun K hK => ?_) AllReadyH.nil
                      go_simp
                      (with_reducible refine (HMO.out w10).mono ?_)
                      rintro e_ w' ⟨rfl, rfl⟩
                      go_wp2_with fail
                      refine hK.out _ _ (HSK.out _ e10) (fun hHeld => ?_)
                      clear hK K
                      try simp only [List.setIfInBounds_toArray, List.set_cons_zero, List.set_cons_succ]
                      refine wpAnyH_take (i := 15) (oi := ⟨some 7, _, _, _, _, _⟩) (v := ?_) rfl (by kernel_rfl) (by kernel_rfl) (by kernel_rfl) (fun _ _ _ h => h) (Or.inl ⟨by rfl, ?_⟩) (by assumption) ?_
                      rotate_left
                      · (intro w hSw; (try dsimp only at hSw); go_simp; (try (with_reducible rfl)))
                      try simp only [Act.put, List.setIfInBounds_toArray, List.set_cons_zero, List.set_cons_succ]
                      refine wpAnyH_done (by kernel_rfl) ?_ _
                      have HG10 := Lib.hid (HGQ.out.below e10 HGQ.out.lt)
                      have HB10 := Lib.hid (btrans HBQ.out e10)
                      have HN2 : Hid (max b2 (mpN (l.drop (k + 1)) (codeL xs)) = T) := HN.out
                      go_wp2_with fail
                      go_roundg g2
                      case measure => omega
                      case rel => exact ⟨k + 1, b2, by omega, by omega, rfl, by go_num, HN2, HG10.out, HB10.out⟩
              · go_simp
                have bl_8 : Below wq.heap.size wq (w5_0.alloc (.cells #[.int .i64 e.2] 3)) := bl_0.alloc bl_0.size _
                have yn_8 : Blk (w5_0.alloc (.cells #[.int .i64 e.2] 3)) (w5_0.heap.size) 3 #[.int .i64 e.2] := by have t_ := Blk.new w5_0 3 #[.int .i64 e.2]; (try rw [World.size_alloc] at t_); (try rw [World.size_alloc] at t_); exact t_
                have oo_8 := oo_0.alloc (.cells #[.int .i64 e.2] 3)
                have ne_8 : some (w5_0.heap.size) ≠ (Value.slice A5_0 xs.length c5_0).ownBlock := fun h_ => by have h1_ := (oo_0.lt _ h_.symm).2; (try rw [World.size_alloc] at h1_); omega
                refine hK.out _ _ (HSK.out _ bl_8) (fun hHeld => ?_)
                clear hK K
                try simp only [List.setIfInBounds_toArray, List.set_cons_zero, List.set_cons_succ]
                refine wpAnyH_ready (rs := [7]) (by kernel_rfl) (by simp) ?_
                refine AllReadyH.cons (o := ⟨some 48, _, _, _, _, _⟩) rfl (fun K hK => ?_) AllReadyH.nil
                · go_simp
                  have bl_9 : Below wq.heap.size wq ((w5_0.alloc (.cells #[.int .i64 e.2] 3)).alloc (.cells #[.int .i64 e.1] 3)) := bl_8.alloc bl_8.size _
                  have yn_9 : Blk ((w5_0.alloc (.cells #[.int .i64 e.2] 3)).alloc (.cells #[.int .i64 e.1] 3)) (w5_0.heap.size + 1) 3 #[.int .i64 e.1] := by have t_ := Blk.new (w5_0.alloc (.cells #[.int .i64 e.2] 3)) 3 #[.int .i64 e.1]; (try rw [World.size_alloc] at t_); (try rw [World.size_alloc] at t_); exact t_
                  have y2_9 : Blk ((w5_0.alloc (.cells #[.int .i64 e.2] 3)).alloc (.cells #[.int .i64 e.1] 3)) (w5_0.heap.size) 3 #[.int .i64 e.2] := yn_8.alloc (.cells #[.int .i64 e.1] 3)
                  have oo_9 := oo_8.alloc (.cells #[.int .i64 e.1] 3)
                  refine hK.out _ _ (HSK.out _ bl_9) (fun hHeld => ?_)
                  clear hK K
                  try simp only [List.setIfInBounds_toArray, List.set_cons_zero, List.set_cons_succ]
                  refine wpAnyH_ready (rs := [8]) (by kernel_rfl) (by simp) ?_
                  refine AllReadyH.cons (o := ⟨some 49, _, _, _, _, _⟩) rfl (fun K hK => ?_) AllReadyH.nil
                  · refine step_append_any _ rfl (.tmp 46) (.tmp 48) 32 rfl wq.heap.size 3 i0 (.int .i64 0) 1 8 Try.underlying32 hi hz0 hz1 hz2 rfl (by decide) (.slice A5_0 xs.length c5_0) (xs.length) (cellsI xs) rfl oo_9 (.slice (some ⟨w5_0.heap.size + 1, 0, none⟩) 1 1) 1 [.int .i64 e.1] rfl (one_readsV yn_9) rfl (by intro x_ hx_; rw [List.mem_singleton.1 hx_]; rfl) (by unfold maxLen; omega) (by omega) bl_9.size ?_
                    intro v_10 w8_10 o8_10 g8_10
                    have bl_10 := bl_9.grown g8_10 bl_9.size (fun q hq => (oo_9.lt q hq).1)
                    have y2_10 := y2_9.grown g8_10 ne_8
                    refine hK.out _ _ (HSK.out _ bl_10) (fun hHeld => ?_)
                    clear hK K
                    try simp only [Act.put, List.setIfInBounds_toArray, List.set_cons_zero, List.set_cons_succ]
                    refine wpAnyH_ready (rs := [11]) (by kernel_rfl) (by simp) ?_
                    refine AllReadyH.cons (o := ⟨some 52, _, _, _, _, _⟩) rfl (fun K hK => ?_) AllReadyH.nil
                    · refine step_append_any _ rfl (.tmp 49) (.tmp 51) 32 rfl wq.heap.size 3 i0 (.int .i64 0) 1 8 Try.underlying32 hi hz0 hz1 hz2 rfl (by decide) v_10 (xs.length + 1) ((cellsI xs) ++ [.int .i64 e.1]) rfl o8_10 (.slice (some ⟨w5_0.heap.size, 0, none⟩) 1 1) 1 [.int .i64 e.2] rfl (one_readsV y2_10) rfl (by intro x_ hx_; rw [List.mem_singleton.1 hx_]; rfl) (by unfold maxLen; omega) (by omega) bl_10.size ?_
                      intro v_11 w8_11 o8_11 g8_11
                      have bl_11 := bl_10.grown g8_11 bl_10.size (fun q hq => (o8_10.lt q hq).1)
                      refine hK.out _ _ (HSK.out _ bl_11) (fun hHeld => ?_)
                      clear hK K
                      try simp only [Act.put, List.setIfInBounds_toArray, List.set_cons_zero, List.set_cons_succ]
                      have o9 := o8_11
                      have e9 := bl_11
                      obtain ⟨w9, hw9⟩ : ∃ w9, w9 = w8_11 := ⟨_, rfl⟩
                      obtain ⟨v9, hv9⟩ : ∃ v9, v9 = v_11 := ⟨_, rfl⟩
                      subst hw9 hv9
                      have hv9 : Ints w9 v9 (xs ++ [e.1] ++ [e.2]) := by
                        show Reads _ _ _ _ _
                        rw [cellsI_app, cellsI_app, List.length_append, List.length_append]
                        exact Reads.of_own o9
                      refine wpAnyH_ready (rs := [12]) (by kernel_rfl) (by simp) ?_
                      refine AllReadyH.cons (o := ⟨some 53, _, _, _, _, _⟩) rfl (fun K hK => ?_) AllReadyH.nil
                      go_simp
                      (with_reducible refine (HREC.out _ e9 v9 hv9).mono ?_)
                      rintro e_ w10 ⟨rfl, b10⟩
                      have e10 := btrans e9 b10
                      go_wp2_with fail
                      refine hK.out _ _ (HSK.out _ e10) (fun hHeld => ?_)
                      clear hK K
                      try simp only [List.setIfInBounds_toArray, List.set_cons_zero, List.set_cons_succ]
                      refine wpAnyH_take (i := 13) (oi := ⟨some 54, _, _, _, _, _⟩) (v := ?_) rfl (by kernel_rfl) (by kernel_rfl) (by kernel_rfl) (fun _ _ _ h => h) (Or.inl ⟨by rfl, ?_⟩) (by assumption) ?_
                      rotate_left
                      · (intro w hSw; (try dsimp only at hSw); go_simp; (try (with_reducible rfl)))
                      try simp only [Act.put, List.setIfInBounds_toArray, List.set_cons_zero, List.set_cons_succ]
                      refine wpAnyH_ready (rs := [14]) (by kernel_rfl) (by simp) ?_
                      refine AllReadyH.cons (o := ⟨some 55, _, _, _, _, _⟩) rfl (fun K hK => ?_) AllReadyH.nil
                      go_simp
                      (with_reducible refine (HMO.out w10).mono ?_)
                      rintro e_ w' ⟨rfl, rfl⟩
                      go_wp2_with fail
                      refine hK.out _ _ (HSK.out _ e10) (fun hHeld => ?_)
                      clear hK K
                      try simp only [List.setIfInBounds_toArray, List.set_cons_zero, List.set_cons_succ]
                      refine wpAnyH_take (i := 15) (oi := ⟨some 7, _, _, _, _, _⟩) (v := ?_) rfl (by kernel_rfl) (by kernel_rfl) (by kernel_rfl) (fun _ _ _ h => h) (Or.inl ⟨by rfl, ?_⟩) (by assumption) ?_
                      rotate_left
                      · (intro w hSw; (try dsimp only at hSw); go_simp; (try (with_reducible rfl)))
                      try simp only [Act.put, List.setIfInBounds_toArray, List.set_cons_zero, List.set_cons_succ]
                      refine wpAnyH_done (by kernel_rfl) ?_ _
                      have HG10 := Lib.hid (HGQ.out.below e10 HGQ.out.lt)
                      have HB10 := Lib.hid (btrans HBQ.out e10)
                      have HN2 : Hid (max b2 (mpN (l.drop (k + 1)) (codeL xs)) = T) := HN.out
                      go_wp2_with fail
                      go_roundg g2
                      case measure => omega
                      case rel => exact ⟨k + 1, b2, by omega, by omega, rfl, by go_num, HN2, HG10.out, HB10.out⟩
            · go_simp
              have bl_12 : Below wq.heap.size wq (wq.alloc (.cells #[.int .i64 e.1] 3)).drew := bq0.alloc bq0.size _
              have yn_12 : Blk (wq.alloc (.cells #[.int .i64 e.1] 3)).drew (wq.heap.size) 3 #[.int .i64 e.1] := by have t_ := Blk.new wq 3 #[.int .i64 e.1]; (try rw [World.size_alloc] at t_); (try rw [World.size_alloc] at t_); exact t_
              refine hK.out _ _ (HSK.out _ bl_12) (fun hHeld => ?_)
              clear hK K
              try simp only [List.setIfInBounds_toArray, List.set_cons_zero, List.set_cons_succ]
              refine wpAnyH_ready (rs := [5, 10]) (by kernel_rfl) (by simp) ?_
              refine AllReadyH.cons (o := ⟨some 46, _, _, _, _, _⟩) rfl (fun K hK => ?_) (AllReadyH.cons (o := ⟨some 51, _, _, _, _, _⟩) rfl (fun K hK => ?_) AllReadyH.nil)
              · go_simp
                (with_reducible refine (HOW.out _ bl_12).mono ?_)
                rintro e_ w5_13 ⟨A5_13, c5_13, rfl, o5_13, b5_13⟩
                have bl_13 := btrans bl_12 b5_13
                have y1_13 := yn_12.below b5_13 yn_12.lt
                have oo_13 := own_base (B' := wq.heap.size) o5_13 bl_12.size
                go_wp2_with fail
                refine hK.out _ _ (HSK.out _ bl_13) (fun hHeld => ?_)
                clear hK K
                try simp only [List.setIfInBounds_toArray, List.set_cons_zero, List.set_cons_succ]
                refine wpAnyH_ready (rs := [8, 10]) (by kernel_rfl) (by simp) ?_
                refine AllReadyH.cons (o := ⟨some 49, _, _, _, _, _⟩) rfl (fun K hK => ?_) (AllReadyH.cons (o := ⟨some 51, _, _, _, _, _⟩) rfl (fun K hK => ?_) AllReadyH.nil)
                · refine step_append_any _ rfl (.tmp 46) (.tmp 48) 32 rfl wq.heap.size 3 i0 (.int .i64 0) 1 8 Try.underlying32 hi hz0 hz1 hz2 rfl (by decide) (.slice A5_13 xs.length c5_13) (xs.length) (cellsI xs) rfl oo_13 (.slice (some ⟨wq.heap.size, 0, none⟩) 1 1) 1 [.int .i64 e.1] rfl (one_readsV y1_13) rfl (by intro x_ hx_; rw [List.mem_singleton.1 hx_]; rfl) (by unfold maxLen; omega) (by omega) bl_13.size ?_
                  intro v_14 w8_14 o8_14 g8_14
                  have bl_14 := bl_13.grown g8_14 bl_13.size (fun q hq => (oo_13.lt q hq).1)
                  refine hK.out _ _ (HSK.out _ bl_14) (fun hHeld => ?_)
                  clear hK K
                  try simp only [Act.put, List.setIfInBounds_toArray, List.set_cons_zero, List.set_cons_succ]
                  refine wpAnyH_ready (rs := [10]) (by kernel_rfl) (by simp) ?_
                  refine AllReadyH.cons (o := ⟨some 51, _, _, _, _, _⟩) rfl (fun K hK => ?_) AllReadyH.nil
                  · go_simp
                    have bl_15 : Below wq.heap.size wq (w8_14.alloc (.cells #[.int .i64 e.2] 3)) := bl_14.alloc bl_14.size _
                    have yn_15 : Blk (w8_14.alloc (.cells #[.int .i64 e.2] 3)) (w8_14.heap.size) 3 #[.int .i64 e.2] := by have t_ := Blk.new w8_14 3 #[.int .i64 e.2]; (try rw [World.size_alloc] at t_); (try rw [World.size_alloc] at t_); exact t_
                    have oo_15 := o8_14.alloc (.cells #[.int .i64 e.2] 3)
                    refine hK.out _ _ (HSK.out _ bl_15) (fun hHeld => ?_)
                    clear hK K
                    try simp only [List.setIfInBounds_toArray, List.set_cons_zero, List.set_cons_succ]
                    refine wpAnyH_ready (rs := [11]) (by kernel_rfl) (by simp) ?_
                    refine AllReadyH.cons (o := ⟨some 52, _, _, _, _, _⟩) rfl (fun K hK => ?_) AllReadyH.nil
                    · refine step_append_any _ rfl (.tmp 49) (.tmp 51) 32 rfl wq.heap.size 3 i0 (.int .i64 0) 1 8 Try.underlying32 hi hz0 hz1 hz2 rfl (by decide) v_14 (xs.length + 1) ((cellsI xs) ++ [.int .i64 e.1]) rfl oo_15 (.slice (some ⟨w8_14.heap.size, 0, none⟩) 1 1) 1 [.int .i64 e.2] rfl (one_readsV yn_15) rfl (by intro x_ hx_; rw [List.mem_singleton.1 hx_]; rfl) (by unfold maxLen; omega) (by omega) bl_15.size ?_
                      intro v_16 w8_16 o8_16 g8_16
                      have bl_16 := bl_15.grown g8_16 bl_15.size (fun q hq => (oo_15.lt q hq).1)
                      refine hK.out _ _ (HSK.out _ bl_16) (fun hHeld => ?_)
                      clear hK K
                      try simp only [Act.put, List.setIfInBounds_toArray, List.set_cons_zero, List.set_cons_succ]
                      have o9 := o8_16
                      have e9 := bl_16
                      obtain ⟨w9, hw9⟩ : ∃ w9, w9 = w8_16 := ⟨_, rfl⟩
                      obtain ⟨v9, hv9⟩ : ∃ v9, v9 = v_16 := ⟨_, rfl⟩
                      subst hw9 hv9
                      have hv9 : Ints w9 v9 (xs ++ [e.1] ++ [e.2]) := by
                        show Reads _ _ _ _ _
                        rw [cellsI_app, cellsI_app, List.length_append, List.length_append]
                        exact Reads.of_own o9
                      refine wpAnyH_ready (rs := [12]) (by kernel_rfl) (by simp) ?_
                      refine AllReadyH.cons (o := ⟨some 53, _, _, _, _, _⟩) rfl (fun K hK => ?_) AllReadyH.nil
                      go_simp
                      (with_reducible refine (HREC.out _ e9 v9 hv9).mono ?_)
                      rintro e_ w10 ⟨rfl, b10⟩
                      have e10 := btrans e9 b10
                      go_wp2_with fail
                      refine hK.out _ _ (HSK.out _ e10) (fun hHeld => ?_)
                      clear hK K
                      try simp only [List.setIfInBounds_toArray, List.set_cons_zero, List.set_cons_succ]
                      refine wpAnyH_take (i := 13) (oi := ⟨some 54, _, _, _, _, _⟩) (v := ?_) rfl (by kernel_rfl) (by kernel_rfl) (by kernel_rfl) (fun _ _ _ h => h) (Or.inl ⟨by rfl, ?_⟩) (by assumption) ?_
                      rotate_left
                      · (intro w hSw; (try dsimp only at hSw); go_simp; (try (with_reducible rfl)))
                      try simp only [Act.put, List.setIfInBounds_toArray, List.set_cons_zero, List.set_cons_succ]
                      refine wpAnyH_ready (rs := [14]) (by kernel_rfl) (by simp) ?_
                      refine AllReadyH.cons (o := ⟨some 55, _, _, _, _, _⟩) rfl (fun K hK => ?_) AllReadyH.nil
                      go_simp
                      (with_reducible refine (HMO.out w10).mono ?_)
                      rintro e_ w' ⟨rfl, rfl⟩
                      go_wp2_with fail
                      refine hK.out _ _ (HSK.out _ e10) (fun hHeld => ?_)
                      clear hK K
                      try simp only [List.setIfInBounds_toArray, List.set_cons_zero, List.set_cons_succ]
                      refine wpAnyH_take (i := 15) (oi := ⟨some 7, _, _, _, _, _⟩) (v := ?_) rfl (by kernel_rfl) (by kernel_rfl) (by kernel_rfl) (fun _ _ _ h => h) (Or.inl ⟨by rfl, ?_⟩) (by assumption) ?_
                      rotate_left
                      · (intro w hSw; (try dsimp only at hSw); go_simp; (try (with_reducible rfl)))
                      try simp only [Act.put, List.setIfInBounds_toArray, List.set_cons_zero, List.set_cons_succ]
                      refine wpAnyH_done (by kernel_rfl) ?_ _
                      have HG10 := Lib.hid (HGQ.out.below e10 HGQ.out.lt)
                      have HB10 := Lib.hid (btrans HBQ.out e10)
                      have HN2 : Hid (max b2 (mpN (l.drop (k + 1)) (codeL xs)) = T) := HN.out
                      go_wp2_with fail
                      go_roundg g2
                      case measure => omega
                      case rel => exact ⟨k + 1, b2, by omega, by omega, rfl, by go_num, HN2, HG10.out, HB10.out⟩
                · go_simp
                  have bl_17 : Below wq.heap.size wq (w5_13.alloc (.cells #[.int .i64 e.2] 3)) := bl_13.alloc bl_13.size _
                  have yn_17 : Blk (w5_13.alloc (.cells #[.int .i64 e.2] 3)) (w5_13.heap.size) 3 #[.int .i64 e.2] := by have t_ := Blk.new w5_13 3 #[.int .i64 e.2]; (try rw [World.size_alloc] at t_); (try rw [World.size_alloc] at t_); exact t_
                  have y1_17 : Blk (w5_13.alloc (.cells #[.int .i64 e.2] 3)) (wq.heap.size) 3 #[.int .i64 e.1] := y1_13.alloc (.cells #[.int .i64 e.2] 3)
                  have oo_17 := oo_13.alloc (.cells #[.int .i64 e.2] 3)
                  have ne_17 : some (w5_13.heap.size) ≠ (Value.slice A5_13 xs.length c5_13).ownBlock := fun h_ => by have h1_ := (oo_13.lt _ h_.symm).2; (try rw [World.size_alloc] at h1_); omega
                  refine hK.out _ _ (HSK.out _ bl_17) (fun hHeld => ?_)
                  clear hK K
                  try simp only [List.setIfInBounds_toArray, List.set_cons_zero, List.set_cons_succ]
                  refine wpAnyH_ready (rs := [8]) (by kernel_rfl) (by simp) ?_
                  refine AllReadyH.cons (o := ⟨some 49, _, _, _, _, _⟩) rfl (fun K hK => ?_) AllReadyH.nil
                  · refine step_append_any _ rfl (.tmp 46) (.tmp 48) 32 rfl wq.heap.size 3 i0 (.int .i64 0) 1 8 Try.underlying32 hi hz0 hz1 hz2 rfl (by decide) (.slice A5_13 xs.length c5_13) (xs.length) (cellsI xs) rfl oo_17 (.slice (some ⟨wq.heap.size, 0, none⟩) 1 1) 1 [.int .i64 e.1] rfl (one_readsV y1_17) rfl (by intro x_ hx_; rw [List.mem_singleton.1 hx_]; rfl) (by unfold maxLen; omega) (by omega) bl_17.size ?_
                    intro v_18 w8_18 o8_18 g8_18
                    have bl_18 := bl_17.grown g8_18 bl_17.size (fun q hq => (oo_17.lt q hq).1)
                    have y2_18 := yn_17.grown g8_18 ne_17
                    refine hK.out _ _ (HSK.out _ bl_18) (fun hHeld => ?_)
                    clear hK K
                    try simp only [Act.put, List.setIfInBounds_toArray, List.set_cons_zero, List.set_cons_succ]
                    refine wpAnyH_ready (rs := [11]) (by kernel_rfl) (by simp) ?_
                    refine AllReadyH.cons (o := ⟨some 52, _, _, _, _, _⟩) rfl (fun K hK => ?_) AllReadyH.nil
                    · refine step_append_any _ rfl (.tmp 49) (.tmp 51) 32 rfl wq.heap.size 3 i0 (.int .i64 0) 1 8 Try.underlying32 hi hz0 hz1 hz2 rfl (by decide) v_18 (xs.length + 1) ((cellsI xs) ++ [.int .i64 e.1]) rfl o8_18 (.slice (some ⟨w5_13.heap.size, 0, none⟩) 1 1) 1 [.int .i64 e.2] rfl (one_readsV y2_18) rfl (by intro x_ hx_; rw [List.mem_singleton.1 hx_]; rfl) (by unfold maxLen; omega) (by omega) bl_18.size ?_
                      intro v_19 w8_19 o8_19 g8_19
                      have bl_19 := bl_18.grown g8_19 bl_18.size (fun q hq => (o8_18.lt q hq).1)
                      refine hK.out _ _ (HSK.out _ bl_19) (fun hHeld => ?_)
                      clear hK K
                      try simp only [Act.put, List.setIfInBounds_toArray, List.set_cons_zero, List.set_cons_succ]
                      have o9 := o8_19
                      have e9 := bl_19
                      obtain ⟨w9, hw9⟩ : ∃ w9, w9 = w8_19 := ⟨_, rfl⟩
                      obtain ⟨v9, hv9⟩ : ∃ v9, v9 = v_19 := ⟨_, rfl⟩
                      subst hw9 hv9
                      have hv9 : Ints w9 v9 (xs ++ [e.1] ++ [e.2]) := by
                        show Reads _ _ _ _ _
                        rw [cellsI_app, cellsI_app, List.length_append, List.length_append]
                        exact Reads.of_own o9
                      refine wpAnyH_ready (rs := [12]) (by kernel_rfl) (by simp) ?_
                      refine AllReadyH.cons (o := ⟨some 53, _, _, _, _, _⟩) rfl (fun K hK => ?_) AllReadyH.nil
                      go_simp
                      (with_reducible refine (HREC.out _ e9 v9 hv9).mono ?_)
                      rintro e_ w10 ⟨rfl, b10⟩
                      have e10 := btrans e9 b10
                      go_wp2_with fail
                      refine hK.out _ _ (HSK.out _ e10) (fun hHeld => ?_)
                      clear hK K
                      try simp only [List.setIfInBounds_toArray, List.set_cons_zero, List.set_cons_succ]
                      refine wpAnyH_take (i := 13) (oi := ⟨some 54, _, _, _, _, _⟩) (v := ?_) rfl (by kernel_rfl) (by kernel_rfl) (by kernel_rfl) (fun _ _ _ h => h) (Or.inl ⟨by rfl, ?_⟩) (by assumption) ?_
                      rotate_left
                      · (intro w hSw; (try dsimp only at hSw); go_simp; (try (with_reducible rfl)))
                      try simp only [Act.put, List.setIfInBounds_toArray, List.set_cons_zero, List.set_cons_succ]
                      refine wpAnyH_ready (rs := [14]) (by kernel_rfl) (by simp) ?_
                      refine AllReadyH.cons (o := ⟨some 55, _, _, _, _, _⟩) rfl (fun K hK => ?_) AllReadyH.nil
                      go_simp
                      (with_reducible refine (HMO.out w10).mono ?_)
                      rintro e_ w' ⟨rfl, rfl⟩
                      go_wp2_with fail
                      refine hK.out _ _ (HSK.out _ e10) (fun hHeld => ?_)
                      clear hK K
                      try simp only [List.setIfInBounds_toArray, List.set_cons_zero, List.set_cons_succ]
                      refine wpAnyH_take (i := 15) (oi := ⟨some 7, _, _, _, _, _⟩) (v := ?_) rfl (by kernel_rfl) (by kernel_rfl) (by kernel_rfl) (fun _ _ _ h => h) (Or.inl ⟨by rfl, ?_⟩) (by assumption) ?_
                      rotate_left
                      · (intro w hSw; (try dsimp only at hSw); go_simp; (try (with_reducible rfl)))
                      try simp only [Act.put, List.setIfInBounds_toArray, List.set_cons_zero, List.set_cons_succ]
                      refine wpAnyH_done (by kernel_rfl) ?_ _
                      have HG10 := Lib.hid (HGQ.out.below e10 HGQ.out.lt)
                      have HB10 := Lib.hid (btrans HBQ.out e10)
                      have HN2 : Hid (max b2 (mpN (l.drop (k + 1)) (codeL xs)) = T) := HN.out
                      go_wp2_with fail
                      go_roundg g2
                      case measure => omega
                      case rel => exact ⟨k + 1, b2, by omega, by omega, rfl, by go_num, HN2, HG10.out, HB10.out⟩
              · go_simp
                have bl_20 : Below wq.heap.size wq ((wq.alloc (.cells #[.int .i64 e.1] 3)).alloc (.cells #[.int .i64 e.2] 3)).drew := bl_12.alloc bl_12.size _
                have yn_20 : Blk ((wq.alloc (.cells #[.int .i64 e.1] 3)).alloc (.cells #[.int .i64 e.2] 3)).drew (wq.heap.size + 1) 3 #[.int .i64 e.2] := by have t_ := Blk.new (wq.alloc (.cells #[.int .i64 e.1] 3)) 3 #[.int .i64 e.2]; (try rw [World.size_alloc] at t_); (try rw [World.size_alloc] at t_); exact t_
                have y1_20 : Blk ((wq.alloc (.cells #[.int .i64 e.1] 3)).alloc (.cells #[.int .i64 e.2] 3)).drew (wq.heap.size) 3 #[.int .i64 e.1] := yn_12.alloc (.cells #[.int .i64 e.2] 3)
                refine hK.out _ _ (HSK.out _ bl_20) (fun hHeld => ?_)
                clear hK K
                try simp only [List.setIfInBounds_toArray, List.set_cons_zero, List.set_cons_succ]
                refine wpAnyH_ready (rs := [5]) (by kernel_rfl) (by simp) ?_
                refine AllReadyH.cons (o := ⟨some 46, _, _, _, _, _⟩) rfl (fun K hK => ?_) AllReadyH.nil
                · go_simp
                  (with_reducible refine (HOW.out _ bl_20).mono ?_)
                  rintro e_ w5_21 ⟨A5_21, c5_21, rfl, o5_21, b5_21⟩
                  have bl_21 := btrans bl_20 b5_21
                  have y1_21 := y1_20.below b5_21 y1_20.lt
                  have y2_21 := yn_20.below b5_21 yn_20.lt
                  have ne_21 : some (wq.heap.size + 1) ≠ (Value.slice A5_21 xs.length c5_21).ownBlock := fun h_ => by have h1_ := (o5_21.lt _ h_.symm).1; have h2_ := yn_20.lt; omega
                  have oo_21 := own_base (B' := wq.heap.size) o5_21 bl_20.size
                  go_wp2_with fail
                  refine hK.out _ _ (HSK.out _ bl_21) (fun hHeld => ?_)
                  clear hK K
                  try simp only [List.setIfInBounds_toArray, List.set_cons_zero, List.set_cons_succ]
                  refine wpAnyH_ready (rs := [8]) (by kernel_rfl) (by simp) ?_
                  refine AllReadyH.cons (o := ⟨some 49, _, _, _, _, _⟩) rfl (fun K hK => ?_) AllReadyH.nil
                  · refine step_append_any _ rfl (.tmp 46) (.tmp 48) 32 rfl wq.heap.size 3 i0 (.int .i64 0) 1 8 Try.underlying32 hi hz0 hz1 hz2 rfl (by decide) (.slice A5_21 xs.length c5_21) (xs.length) (cellsI xs) rfl oo_21 (.slice (some ⟨wq.heap.size, 0, none⟩) 1 1) 1 [.int .i64 e.1] rfl (one_readsV y1_21) rfl (by intro x_ hx_; rw [List.mem_singleton.1 hx_]; rfl) (by unfold maxLen; omega) (by omega) bl_21.size ?_
                    intro v_22 w8_22 o8_22 g8_22
                    have bl_22 := bl_21.grown g8_22 bl_21.size (fun q hq => (oo_21.lt q hq).1)
                    have y2_22 := y2_21.grown g8_22 ne_21
                    refine hK.out _ _ (HSK.out _ bl_22) (fun hHeld => ?_)
                    clear hK K
                    try simp only [Act.put, List.setIfInBounds_toArray, List.set_cons_zero, List.set_cons_succ]
                    refine wpAnyH_ready (rs := [11]) (by kernel_rfl) (by simp) ?_
                    refine AllReadyH.cons (o := ⟨some 52, _, _, _, _, _⟩) rfl (fun K hK => ?_) AllReadyH.nil
                    · refine step_append_any _ rfl (.tmp 49) (.tmp 51) 32 rfl wq.heap.size 3 i0 (.int .i64 0) 1 8 Try.underlying32 hi hz0 hz1 hz2 rfl (by decide) v_22 (xs.length + 1) ((cellsI xs) ++ [.int .i64 e.1]) rfl o8_22 (.slice (some ⟨wq.heap.size + 1, 0, none⟩) 1 1) 1 [.int .i64 e.2] rfl (one_readsV y2_22) rfl (by intro x_ hx_; rw [List.mem_singleton.1 hx_]; rfl) (by unfold maxLen; omega) (by omega) bl_22.size ?_
                      intro v_23 w8_23 o8_23 g8_23
                      have bl_23 := bl_22.grown g8_23 bl_22.size (fun q hq => (o8_22.lt q hq).1)
                      refine hK.out _ _ (HSK.out _ bl_23) (fun hHeld => ?_)
                      clear hK K
                      try simp only [Act.put, List.setIfInBounds_toArray, List.set_cons_zero, List.set_cons_succ]
                      have o9 := o8_23
                      have e9 := bl_23
                      obtain ⟨w9, hw9⟩ : ∃ w9, w9 = w8_23 := ⟨_, rfl⟩
                      obtain ⟨v9, hv9⟩ : ∃ v9, v9 = v_23 := ⟨_, rfl⟩
                      subst hw9 hv9
                      have hv9 : Ints w9 v9 (xs ++ [e.1] ++ [e.2]) := by
                        show Reads _ _ _ _ _
                        rw [cellsI_app, cellsI_app, List.length_append, List.length_append]
                        exact Reads.of_own o9
                      refine wpAnyH_ready (rs := [12]) (by kernel_rfl) (by simp) ?_
                      refine AllReadyH.cons (o := ⟨some 53, _, _, _, _, _⟩) rfl (fun K hK => ?_) AllReadyH.nil
                      go_simp
                      (with_reducible refine (HREC.out _ e9 v9 hv9).mono ?_)
                      rintro e_ w10 ⟨rfl, b10⟩
                      have e10 := btrans e9 b10
                      go_wp2_with fail
                      refine hK.out _ _ (HSK.out _ e10) (fun hHeld => ?_)
                      clear hK K
                      try simp only [List.setIfInBounds_toArray, List.set_cons_zero, List.set_cons_succ]
                      refine wpAnyH_take (i := 13) (oi := ⟨some 54, _, _, _, _, _⟩) (v := ?_) rfl (by kernel_rfl) (by kernel_rfl) (by kernel_rfl) (fun _ _ _ h => h) (Or.inl ⟨by rfl, ?_⟩) (by assumption) ?_
                      rotate_left
                      · (intro w hSw; (try dsimp only at hSw); go_simp; (try (with_reducible rfl)))
                      try simp only [Act.put, List.setIfInBounds_toArray, List.set_cons_zero, List.set_cons_succ]
                      refine wpAnyH_ready (rs := [14]) (by kernel_rfl) (by simp) ?_
                      refine AllReadyH.cons (o := ⟨some 55, _, _, _, _, _⟩) rfl (fun K hK => ?_) AllReadyH.nil
                      go_simp
                      (with_reducible refine (HMO.out w10).mono ?_)
                      rintro e_ w' ⟨rfl, rfl⟩
                      go_wp2_with fail
                      refine hK.out _ _ (HSK.out _ e10) (fun hHeld => ?_)
                      clear hK K
                      try simp only [List.setIfInBounds_toArray, List.set_cons_zero, List.set_cons_succ]
                      refine wpAnyH_take (i := 15) (oi := ⟨some 7, _, _, _, _, _⟩) (v := ?_) rfl (by kernel_rfl) (by kernel_rfl) (by kernel_rfl) (fun _ _ _ h => h) (Or.inl ⟨by rfl, ?_⟩) (by assumption) ?_
                      rotate_left
                      · (intro w hSw; (try dsimp only at hSw); go_simp; (try (with_reducible rfl)))
                      try simp only [Act.put, List.setIfInBounds_toArray, List.set_cons_zero, List.set_cons_succ]
                      refine wpAnyH_done (by kernel_rfl) ?_ _
                      have HG10 := Lib.hid (HGQ.out.below e10 HGQ.out.lt)
                      have HB10 := Lib.hid (btrans HBQ.out e10)
                      have HN2 : Hid (max b2 (mpN (l.drop (k + 1)) (codeL xs)) = T) := HN.out
                      go_wp2_with fail
                      go_roundg g2
                      case measure => omega
                      case rel => exact ⟨k + 1, b2, by omega, by omega, rfl, by go_num, HN2, HG10.out, HB10.out⟩
            · go_simp
              have bl_24 : Below wq.heap.size wq (wq.alloc (.cells #[.int .i64 e.2] 3)).drew := bq0.alloc bq0.size _
              have yn_24 : Blk (wq.alloc (.cells #[.int .i64 e.2] 3)).drew (wq.heap.size) 3 #[.int .i64 e.2] := by have t_ := Blk.new wq 3 #[.int .i64 e.2]; (try rw [World.size_alloc] at t_); (try rw [World.size_alloc] at t_); exact t_
              refine hK.out _ _ (HSK.out _ bl_24) (fun hHeld => ?_)
              clear hK K
              try simp only [List.setIfInBounds_toArray, List.set_cons_zero, List.set_cons_succ]
              refine wpAnyH_ready (rs := [5, 7]) (by kernel_rfl) (by simp) ?_
              refine AllReadyH.cons (o := ⟨some 46, _, _, _, _, _⟩) rfl (fun K hK => ?_) (AllReadyH.cons (o := ⟨some 48, _, _, _, _, _⟩) rfl (fun K hK => ?_) AllReadyH.nil)
              · go_simp
                (with_reducible refine (HOW.out _ bl_24).mono ?_)
                rintro e_ w5_25 ⟨A5_25, c5_25, rfl, o5_25, b5_25⟩
                have bl_25 := btrans bl_24 b5_25
                have y2_25 := yn_24.below b5_25 yn_24.lt
                have ne_25 : some (wq.heap.size) ≠ (Value.slice A5_25 xs.length c5_25).ownBlock := fun h_ => by have h1_ := (o5_25.lt _ h_.symm).1; have h2_ := yn_24.lt; omega
                have oo_25 := own_base (B' := wq.heap.size) o5_25 bl_24.size
                go_wp2_with fail
                refine hK.out _ _ (HSK.out _ bl_25) (fun hHeld => ?_)
                clear hK K
                try simp only [List.setIfInBounds_toArray, List.set_cons_zero, List.set_cons_succ]
                refine wpAnyH_ready (rs := [7]) (by kernel_rfl) (by simp) ?_
                refine AllReadyH.cons (o := ⟨some 48, _, _, _, _, _⟩) rfl (fun K hK => ?_) AllReadyH.nil
                · go_simp
                  have bl_26 : Below wq.heap.size wq (w5_25.alloc (.cells #[.int .i64 e.1] 3)) := bl_25.alloc bl_25.size _
                  have yn_26 : Blk (w5_25.alloc (.cells #[.int .i64 e.1] 3)) (w5_25.heap.size) 3 #[.int .i64 e.1] := by have t_ := Blk.new w5_25 3 #[.int .i64 e.1]; (try rw [World.size_alloc] at t_); (try rw [World.size_alloc] at t_); exact t_
                  have y2_26 : Blk (w5_25.alloc (.cells #[.int .i64 e.1] 3)) (wq.heap.size) 3 #[.int .i64 e.2] := y2_25.alloc (.cells #[.int .i64 e.1] 3)
                  have oo_26 := oo_25.alloc (.cells #[.int .i64 e.1] 3)
                  refine hK.out _ _ (HSK.out _ bl_26) (fun hHeld => ?_)
                  clear hK K
                  try simp only [List.setIfInBounds_toArray, List.set_cons_zero, List.set_cons_succ]
                  refine wpAnyH_ready (rs := [8]) (by kernel_rfl) (by simp) ?_
                  refine AllReadyH.cons (o := ⟨some 49, _, _, _, _, _⟩) rfl (fun K hK => ?_) AllReadyH.nil
                  · refine step_append_any _ rfl (.tmp 46) (.tmp 48) 32 rfl wq.heap.size 3 i0 (.int .i64 0) 1 8 Try.underlying32 hi hz0 hz1 hz2 rfl (by decide) (.slice A5_25 xs.length c5_25) (xs.length) (cellsI xs) rfl oo_26 (.slice (some ⟨w5_25.heap.size, 0, none⟩) 1 1) 1 [.int .i64 e.1] rfl (one_readsV yn_26) rfl (by intro x_ hx_; rw [List.mem_singleton.1 hx_]; rfl) (by unfold maxLen; omega) (by omega) bl_26.size ?_
                    intro v_27 w8_27 o8_27 g8_27
                    have bl_27 := bl_26.grown g8_27 bl_26.size (fun q hq => (oo_26.lt q hq).1)
                    have y2_27 := y2_26.grown g8_27 ne_25
                    refine hK.out _ _ (HSK.out _ bl_27) (fun hHeld => ?_)
                    clear hK K
                    try simp only [Act.put, List.setIfInBounds_toArray, List.set_cons_zero, List.set_cons_succ]
                    refine wpAnyH_ready (rs := [11]) (by kernel_rfl) (by simp) ?_
                    refine AllReadyH.cons (o := ⟨some 52, _, _, _, _, _⟩) rfl (fun K hK => ?_) AllReadyH.nil
                    · refine step_append_any _ rfl (.tmp 49) (.tmp 51) 32 rfl wq.heap.size 3 i0 (.int .i64 0) 1 8 Try.underlying32 hi hz0 hz1 hz2 rfl (by decide) v_27 (xs.length + 1) ((cellsI xs) ++ [.int .i64 e.1]) rfl o8_27 (.slice (some ⟨wq.heap.size, 0, none⟩) 1 1) 1 [.int .i64 e.2] rfl (one_readsV y2_27) rfl (by intro x_ hx_; rw [List.mem_singleton.1 hx_]; rfl) (by unfold maxLen; omega) (by omega) bl_27.size ?_
                      intro v_28 w8_28 o8_28 g8_28
                      have bl_28 := bl_27.grown g8_28 bl_27.size (fun q hq => (o8_27.lt q hq).1)
                      refine hK.out _ _ (HSK.out _ bl_28) (fun hHeld => ?_)
                      clear hK K
                      try simp only [Act.put, List.setIfInBounds_toArray, List.set_cons_zero, List.set_cons_succ]
                      have o9 := o8_28
                      have e9 := bl_28
                      obtain ⟨w9, hw9⟩ : ∃ w9, w9 = w8_28 := ⟨_, rfl⟩
                      obtain ⟨v9, hv9⟩ : ∃ v9, v9 = v_28 := ⟨_, rfl⟩
                      subst hw9 hv9
                      have hv9 : Ints w9 v9 (xs ++ [e.1] ++ [e.2]) := by
                        show Reads _ _ _ _ _
                        rw [cellsI_app, cellsI_app, List.length_append, List.length_append]
                        exact Reads.of_own o9
                      refine wpAnyH_ready (rs := [12]) (by kernel_rfl) (by simp) ?_
                      refine AllReadyH.cons (o := ⟨some 53, _, _, _, _, _⟩) rfl (fun K hK => ?_) AllReadyH.nil
                      go_simp
                      (with_reducible refine (HREC.out _ e9 v9 hv9).mono ?_)
                      rintro e_ w10 ⟨rfl, b10⟩
                      have e10 := btrans e9 b10
                      go_wp2_with fail
                      refine hK.out _ _ (HSK.out _ e10) (fun hHeld => ?_)
                      clear hK K
                      try simp only [List.setIfInBounds_toArray, List.set_cons_zero, List.set_cons_succ]
                      refine wpAnyH_take (i := 13) (oi := ⟨some 54, _, _, _, _, _⟩) (v := ?_) rfl (by kernel_rfl) (by kernel_rfl) (by kernel_rfl) (fun _ _ _ h => h) (Or.inl ⟨by rfl, ?_⟩) (by assumption) ?_
                      rotate_left
                      · (intro w hSw; (try dsimp only at hSw); go_simp; (try (with_reducible rfl)))
                      try simp only [Act.put, List.setIfInBounds_toArray, List.set_cons_zero, List.set_cons_succ]
                      refine wpAnyH_ready (rs := [14]) (by kernel_rfl) (by simp) ?_
                      refine AllReadyH.cons (o := ⟨some 55, _, _, _, _, _⟩) rfl (fun K hK => ?_) AllReadyH.nil
                      go_simp
                      (with_reducible refine (HMO.out w10).mono ?_)
                      rintro e_ w' ⟨rfl, rfl⟩
                      go_wp2_with fail
                      refine hK.out _ _ (HSK.out _ e10) (fun hHeld => ?_)
                      clear hK K
                      try simp only [List.setIfInBounds_toArray, List.set_cons_zero, List.set_cons_succ]
                      refine wpAnyH_take (i := 15) (oi := ⟨some 7, _, _, _, _, _⟩) (v := ?_) rfl (by kernel_rfl) (by kernel_rfl) (by kernel_rfl) (fun _ _ _ h => h) (Or.inl ⟨by rfl, ?_⟩) (by assumption) ?_
                      rotate_left
                      · (intro w hSw; (try dsimp only at hSw); go_simp; (try (with_reducible rfl)))
                      try simp only [Act.put, List.setIfInBounds_toArray, List.set_cons_zero, List.set_cons_succ]
                      refine wpAnyH_done (by kernel_rfl) ?_ _
                      have HG10 := Lib.hid (HGQ.out.below e10 HGQ.out.lt)
                      have HB10 := Lib.hid (btrans HBQ.out e10)
                      have HN2 : Hid (max b2 (mpN (l.drop (k + 1)) (codeL xs)) = T) := HN.out
                      go_wp2_with fail
                      go_roundg g2
                      case measure => omega
                      case rel => exact ⟨k + 1, b2, by omega, by omega, rfl, by go_num, HN2, HG10.out, HB10.out⟩
              · go_simp
                have bl_29 : Below wq.heap.size wq ((wq.alloc (.cells #[.int .i64 e.2] 3)).alloc (.cells #[.int .i64 e.1] 3)).drew := bl_24.alloc bl_24.size _
                have yn_29 : Blk ((wq.alloc (.cells #[.int .i64 e.2] 3)).alloc (.cells #[.int .i64 e.1] 3)).drew (wq.heap.size + 1) 3 #[.int .i64 e.1] := by have t_ := Blk.new (wq.alloc (.cells #[.int .i64 e.2] 3)) 3 #[.int .i64 e.1]; (try rw [World.size_alloc] at t_); (try rw [World.size_alloc] at t_); exact t_
                have y2_29 : Blk ((wq.alloc (.cells #[.int .i64 e.2] 3)).alloc (.cells #[.int .i64 e.1] 3)).drew (wq.heap.size) 3 #[.int .i64 e.2] := yn_24.alloc (.cells #[.int .i64 e.1] 3)
                refine hK.out _ _ (HSK.out _ bl_29) (fun hHeld => ?_)
                clear hK K
                try simp only [List.setIfInBounds_toArray, List.set_cons_zero, List.set_cons_succ]
                refine wpAnyH_ready (rs := [5]) (by kernel_rfl) (by simp) ?_
                refine AllReadyH.cons (o := ⟨some 46, _, _, _, _, _⟩) rfl (fun K hK => ?_) AllReadyH.nil
                · go_simp
                  (with_reducible refine (HOW.out _ bl_29).mono ?_)
                  rintro e_ w5_30 ⟨A5_30, c5_30, rfl, o5_30, b5_30⟩
                  have bl_30 := btrans bl_29 b5_30
                  have y1_30 := yn_29.below b5_30 yn_29.lt
                  have y2_30 := y2_29.below b5_30 y2_29.lt
                  have ne_30 : some (wq.heap.size) ≠ (Value.slice A5_30 xs.length c5_30).ownBlock := fun h_ => by have h1_ := (o5_30.lt _ h_.symm).1; have h2_ := y2_29.lt; omega
                  have oo_30 := own_base (B' := wq.heap.size) o5_30 bl_29.size
                  go_wp2_with fail
                  refine hK.out _ _ (HSK.out _ bl_30) (fun hHeld => ?_)
                  clear hK K
                  try simp only [List.setIfInBounds_toArray, List.set_cons_zero, List.set_cons_succ]
                  refine wpAnyH_ready (rs := [8]) (by kernel_rfl) (by simp) ?_
                  refine AllReadyH.cons (o := ⟨some 49, _, _, _, _, _⟩) rfl (fun K hK => ?_) AllReadyH.nil
                  · refine step_append_any _ rfl (.tmp 46) (.tmp 48) 32 rfl wq.heap.size 3 i0 (.int .i64 0) 1 8 Try.underlying32 hi hz0 hz1 hz2 rfl (by decide) (.slice A5_30 xs.length c5_30) (xs.length) (cellsI xs) rfl oo_30 (.slice (some ⟨wq.heap.size + 1, 0, none⟩) 1 1) 1 [.int .i64 e.1] rfl (one_readsV y1_30) rfl (by intro x_ hx_; rw [List.mem_singleton.1 hx_]; rfl) (by unfold maxLen; omega) (by omega) bl_30.size ?_
                    intro v_31 w8_31 o8_31 g8_31
                    have bl_31 := bl_30.grown g8_31 bl_30.size (fun q hq => (oo_30.lt q hq).1)
                    have y2_31 := y2_30.grown g8_31 ne_30
                    refine hK.out _ _ (HSK.out _ bl_31) (fun hHeld => ?_)
                    clear hK K
                    try simp only [Act.put, List.setIfInBounds_toArray, List.set_cons_zero, List.set_cons_succ]
                    refine wpAnyH_ready (rs := [11]) (by kernel_rfl) (by simp) ?_
                    refine AllReadyH.cons (o := ⟨some 52, _, _, _, _, _⟩) rfl (fun K hK => ?_) AllReadyH.nil
                    · refine step_append_any _ rfl (.tmp 49) (.tmp 51) 32 rfl wq.heap.size 3 i0 (.int .i64 0) 1 8 Try.underlying32 hi hz0 hz1 hz2 rfl (by decide) v_31 (xs.length + 1) ((cellsI xs) ++ [.int .i64 e.1]) rfl o8_31 (.slice (some ⟨wq.heap.size, 0, none⟩) 1 1) 1 [.int .i64 e.2] rfl (one_readsV y2_31) rfl (by intro x_ hx_; rw [List.mem_singleton.1 hx_]; rfl) (by unfold maxLen; omega) (by omega) bl_31.size ?_
                      intro v_32 w8_32 o8_32 g8_32
                      have bl_32 := bl_31.grown g8_32 bl_31.size (fun q hq => (o8_31.lt q hq).1)
                      refine hK.out _ _ (HSK.out _ bl_32) (fun hHeld => ?_)
                      clear hK K
                      try simp only [Act.put, List.setIfInBounds_toArray, List.set_cons_zero, List.set_cons_succ]
                      have o9 := o8_32
                      have e9 := bl_32
                      obtain ⟨w9, hw9⟩ : ∃ w9, w9 = w8_32 := ⟨_, rfl⟩
                      obtain ⟨v9, hv9⟩ : ∃ v9, v9 = v_32 := ⟨_, rfl⟩
                      subst hw9 hv9
                      have hv9 : Ints w9 v9 (xs ++ [e.1] ++ [e.2]) := by
                        show Reads _ _ _ _ _
                        rw [cellsI_app, cellsI_app, List.length_append, List.length_append]
                        exact Reads.of_own o9
                      refine wpAnyH_ready (rs := [12]) (by kernel_rfl) (by simp) ?_
                      refine AllReadyH.cons (o := ⟨some 53, _, _, _, _, _⟩) rfl (fun K hK => ?_) AllReadyH.nil
                      go_simp
                      (with_reducible refine (HREC.out _ e9 v9 hv9).mono ?_)
                      rintro e_ w10 ⟨rfl, b10⟩
                      have e10 := btrans e9 b10
                      go_wp2_with fail
                      refine hK.out _ _ (HSK.out _ e10) (fun hHeld => ?_)
                      clear hK K
                      try simp only [List.setIfInBounds_toArray, List.set_cons_zero, List.set_cons_succ]
                      refine wpAnyH_take (i := 13) (oi := ⟨some 54, _, _, _, _, _⟩) (v := ?_) rfl (by kernel_rfl) (by kernel_rfl) (by kernel_rfl) (fun _ _ _ h => h) (Or.inl ⟨by rfl, ?_⟩) (by assumption) ?_
                      rotate_left
                      · (intro w hSw; (try dsimp only at hSw); go_simp; (try (with_reducible rfl)))
                      try simp only [Act.put, List.setIfInBounds_toArray, List.set_cons_zero, List.set_cons_succ]
                      refine wpAnyH_ready (rs := [14]) (by kernel_rfl) (by simp) ?_
                      refine AllReadyH.cons (o := ⟨some 55, _, _, _, _, _⟩) rfl (fun K hK => ?_) AllReadyH.nil
                      go_simp
                      (with_reducible refine (HMO.out w10).mono ?_)
                      rintro e_ w' ⟨rfl, rfl⟩
                      go_wp2_with fail
                      refine hK.out _ _ (HSK.out _ e10) (fun hHeld => ?_)
                      clear hK K
                      try simp only [List.setIfInBounds_toArray, List.set_cons_zero, List.set_cons_succ]
                      refine wpAnyH_take (i := 15) (oi := ⟨some 7, _, _, _, _, _⟩) (v := ?_) rfl (by kernel_rfl) (by kernel_rfl) (by kernel_rfl) (fun _ _ _ h => h) (Or.inl ⟨by rfl, ?_⟩) (by assumption) ?_
                      rotate_left
                      · (intro w hSw; (try dsimp only at hSw); go_simp; (try (with_reducible rfl)))
                      try simp only [Act.put, List.setIfInBounds_toArray, List.set_cons_zero, List.set_cons_succ]
                      refine wpAnyH_done (by kernel_rfl) ?_ _
                      have HG10 := Lib.hid (HGQ.out.below e10 HGQ.out.lt)
                      have HB10 := Lib.hid (btrans HBQ.out e10)
                      have HN2 : Hid (max b2 (mpN (l.drop (k + 1)) (codeL xs)) = T) := HN.out
                      go_wp2_with fail
                      go_roundg g2
                      case measure => omega
                      case rel => exact ⟨k + 1, b2, by omega, by omega, rfl, by go_num, HN2, HG10.out, HB10.out⟩
set_option maxHeartbeats 2000000 in
set_option maxRecDepth 100000 in
theorem specMp_any (s : Int) (v : Value) (l : List Ed) (w : World) (h : Edges w v l) (hl : l.length ≤ 1048576) (hs1 : -9223372036854775808 ≤ s) (hs2 : s ≤ 9223372036854775807) :
    Calls Try.prog 22 #[.agg #[.int .i64 s, v]] w fun e w' => e = .returned (.tuple #[.int .i64 (szG (P2.Good s l) (mpV l)), .bool (okG (P2.Good s l))]) ∧ Below w.heap.size w w' := by
  obtain ⟨A, c, rfl, -⟩ := h.form
  have H := Lib.hid h
  have b0 : Below w.heap.size w (w.alloc (.cells #[.int .i64 s, .slice A l.length c] 28)) := (Below.refl _ _).alloc (Nat.le_refl _) _
  have HG0 := Lib.hid (Blk.new w 28 #[.int .i64 s, .slice A l.length c])
  obtain ⟨p0, p1, -, -⟩ := HG0.out.two
  have HGD := Lib.hid (l2Good_any s _ l _ (h.below b0) hl hs1 hs2)
  have HB0 := Lib.hid b0
  clear h b0
  by_cases hgd : P2.Good s l
  · rw [goodB_yes hgd] at HGD
    rw [szG_yes hgd, okG_yes hgd]
    have HM := Lib.hid (fun (W : World) (v2 : Value) (hW : Below w.heap.size w W) (hv : Ints W v2 []) => l9Match_any s l.length l 0 [] (.slice A l.length c) v2 W (by omega) (by omega) (H.out.below hW) (edge_len hgd) (fun e he => by have := hgd.mem he; have := hgd.2.1; omega) hv (fun x hx => by simp at hx) (by simp))
    rw [show ((0 : Nat) : Int) = 0 from rfl] at HM
    have HV : Hid ((mpN (l.drop 0) (codeL []) : Int) = mpV l) := rfl
    rw [HV.out] at HM
    clear hgd HV
    generalize mpV l = q at *
    go_enter Try.func22, Try.ntmps22
    go_wp2_with fail
    refine HGD.out.mono ?_
    rintro e w1 ⟨rfl, b1⟩
    have HE1 := Lib.hid (btrans HB0.out b1)
    have HG1 := Lib.hid (HG0.out.below b1 HG0.out.lt)
    clear p0 p1 b1 HGD HB0 HG0
    obtain ⟨p0, p1, -, -⟩ := HG1.out.two
    have HE2 := Lib.hid (HE1.out.alloc HE1.out.size (.cells #[] 3))
    have HM2 := Lib.hid (HM.out (w1.alloc (.cells #[] 3)) (.slice (some ⟨w1.heap.size, 0, none⟩) 0 0) HE2.out ⟨_, _, rfl, fun hn => by simp at hn⟩)
    go_wp2_with fail
    refine HM2.out.mono ?_
    rintro e w2 ⟨rfl, b2⟩
    go_wp2_with fail
    go_ret2
    exact ⟨rfl, btrans HE2.out b2⟩
  · rw [goodB_no hgd] at HGD
    rw [szG_no hgd, okG_no hgd]
    clear hgd
    go_enter Try.func22, Try.ntmps22
    go_wp2_with fail
    refine HGD.out.mono ?_
    rintro e w1 ⟨rfl, b1⟩
    have HE1 := Lib.hid (btrans HB0.out b1)
    clear p0 p1 b1
    go_wp2_with fail
    go_ret2
    exact ⟨rfl, HE1.out⟩
end Go.Proofs.Ytjcnngnahijceaa.mps
