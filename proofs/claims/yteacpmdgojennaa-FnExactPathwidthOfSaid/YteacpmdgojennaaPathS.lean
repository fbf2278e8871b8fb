/- The contracts of the model's l6Widths, l6Pathwidth and PathwidthOf. -/
import Derived.Handy
import Derived.Test.YteacpmdgojennaaPathI
import Derived.Test.YteacpmdgojennaaFrontS
import Derived.Test.YteacpmdgojennaaFsS
import Derived.Test.YteacpmdgojennaaMinMax
import Derived.Deep.AppendLies
import Derived.Deep.DeepCutAuto
import Derived.Deep.RegionHeld3
namespace Go.Proofs.Yteacpmdgojennaa.costs
open Go.RowKit P2 words edges ints good adjs fns sets rets covs reach bags balls bitsI fronts mids minmax
set_option linter.unusedVariables false

set_option maxHeartbeats 4000000 in
set_option maxRecDepth 100000 in
theorem l6Widths_any (n : Nat) (v : Value) (l : List Ed) (w : World) (h : Edges w v l) (hl : l.length ≤ 1048576) (hn : n ≤ 8) :
    Calls Try.prog 109 #[.agg #[.int .i64 (n : Int), v]] w fun e w' => ∃ A c W, e = .returned (.slice A (2 ^ n) c) ∧ w'.ownsRow w.heap.size 3 1 (.slice A (2 ^ n) c) (2 ^ n) (cellsI (rowF (2 ^ n) W)) ∧ WUp n (frontC l n) (2 ^ n) W ∧ Below w.heap.size w w' := by
  obtain ⟨i0, hi, hz0, hz1, hz2⟩ := info_parts infoInt
  obtain ⟨A, c, rfl, -⟩ := h.form
  have hp := pow8 hn
  have hp0 := Nat.two_pow_pos n
  obtain ⟨N, hN⟩ : ∃ N, N = 2 ^ n := ⟨_, rfl⟩
  have hsh : IntKind.i64.wrap ((2 : Int) ^ n) = (N : Int) := by
    rw [hN, show ((2 : Int) ^ n) = ((2 ^ n : Nat) : Int) from by simp]
    exact IntWalk.i64_in _ (by omega)
  rw [← hN] at hp hp0 ⊢
  have HN := Lib.hid hN
  have H := Lib.hid h
  have hb0 : Below w.heap.size w ((w.alloc (.cells #[.int .i64 (n : Int), .slice A l.length c] 28)).alloc (.cells #[.int .i64 0] 3)) := ((Below.refl _ _).alloc (Nat.le_refl _) _).alloc (by simp) _
  have HE0 := Lib.hid hb0
  have HG0 := Lib.hid ((Blk.new w 28 #[.int .i64 (n : Int), .slice A l.length c]).alloc (.cells #[.int .i64 0] 3))
  have ho0 := World.ownsRow_lit (base := w.heap.size + 1) (e := 3) (size := 1) (w.alloc (.cells #[.int .i64 (n : Int), .slice A l.length c] 28)) #[Value.int .i64 0] 1 (by simp) (by unfold maxLen; omega) rfl
  rw [World.size_alloc] at ho0
  have HO0 : Hid (((w.alloc (.cells #[.int .i64 (n : Int), .slice A l.length c] 28)).alloc (.cells #[.int .i64 0] 3)).ownsRow (w.heap.size + 1) 3 1 (.slice (some ⟨w.heap.size + 1, 0, none⟩) 1 1) 1 (cellsI (rowF 1 (fun _ => 0)))) := ho0
  obtain ⟨w0, hw0⟩ : ∃ w0, w0 = ((w.alloc (.cells #[.int .i64 (n : Int), .slice A l.length c] 28)).alloc (.cells #[.int .i64 0] 3)) := ⟨_, rfl⟩
  have hn0 : (0 : Int) ≤ (n : Int) := by omega
  rw [← hw0] at HO0 HE0 HG0
  have HW0 := Lib.hid hw0
  clear h hb0 ho0 hN hw0
  go_enter Try.func109, Try.ntmps109
  go_wp2_with fail
  rw [← HW0.out]
  have hsz0 : w.heap.size + 1 ≤ w0.heap.size := by have := HG0.out.lt; omega
  clear HW0
  go_loopg [3, 4] (N - 1) (fun g ov iv wr => ∃ (k : Nat) (ow : Value) (W : Nat → Int), ow = ov ∧ k + g = N ∧ Hid (1 ≤ k) ∧ iv = .int .i64 (k : Int) ∧ wr.ownsRow (w.heap.size + 1) 3 1 ow k (cellsI (rowF k W)) ∧ Hid (WUp n (frontC l n) k W) ∧ Below (w.heap.size + 1) w0 wr)
  case atStart => exact ⟨1, _, _, rfl, by omega, Lib.hid (Nat.le_refl _), rfl, HO0.out, WUp.start _ _, Below.refl _ _⟩
  case round =>
    clear HO0
    obtain ⟨k, ow, W, rfl, hkg, hk1, rfl, hrow, hwu, hB⟩ := hrel
    obtain ⟨A6, c6, rfl⟩ := own_form hrow
    have hgb := HG0.out.below hB (by omega)
    have hsz := hB.size
    obtain ⟨p0, p1, -, -⟩ := hgb.two
    cases gk with
    | zero =>
      obtain rfl : k = N := by omega
      have HR := Lib.hid (own_base hrow (by omega : w.heap.size ≤ w.heap.size + 1))
      have HB := Lib.hid (HE0.out.trans (hB.mono (by omega)))
      clear hrow hB hgb
      go_wp2_with fail
      go_ret
      exact ⟨A6, c6, W, rfl, HR.out, hwu.out, HB.out⟩
    | succ g2 =>
      have hkN : k < N := by omega
      have hkN' : (k : Int) < (N : Int) := by omega
      obtain ⟨g6, rfl⟩ := own_lit hrow hk1.out
      have HR := Lib.hid hrow
      have HG := Lib.hid hgb
      have HB := Lib.hid hB
      have HPOS : Hid (∀ y, k.testBit y = true → y < n → 0 ≤ W (k - 2 ^ y)) := fun y _ _ => (hwu.out.2.2 (k - 2 ^ y) (Nat.sub_lt hk1.out (Nat.two_pow_pos y))).1
      clear hrow hgb hB
      obtain ⟨wo, hwo⟩ : ∃ wo, wo = wr := ⟨_, rfl⟩
      subst hwo
      go_wp2_with fail
      go_loopg [5, 6] n (fun g bv xv wr => ∃ (x : Nat) (b : Int), x + g = n ∧ xv = .int .i64 (x : Int) ∧ bv = .int .i64 b ∧ Hid (BtAt n W k x b) ∧ wo = wr)
      case atStart => exact ⟨0, -1, by omega, rfl, rfl, BtAt.start n W k, rfl⟩
      case round =>
        obtain ⟨x, b, hxg, rfl, rfl, hbt, rfl⟩ := hrel
        cases gk with
        | zero =>
          obtain rfl : x = n := by omega
          have HBI := Lib.hid (fun (W' : World) => l2Bits_any x k W' hn (by omega))
          have HFR := Lib.hid (fun (W' : World) (u : Value) (hW : Below w0.heap.size w0 W' ∨ Below (w.heap.size + 1) w0 W') (hu : Ints W' u (nw (bitB k) x)) => l6Front_any x (.slice A l.length c) u l (nw (bitB k) x) W' (H.out.below (by
            rcases hW with h_ | h_
            · exact btrans HE0.out h_
            · exact HE0.out.trans (h_.mono (by omega)))) hl hu (by have := nw_len (bitB k) x; omega) hn (fun y hy => by obtain ⟨j, h1, _, rfl⟩ := mem_nw.1 hy; omega))
          have HFL := Lib.hid (fro_code l x k)
          have hl8 : (froL x l (nw (bitB k) x)).length ≤ x := nw_len _ _
          have HMO := Lib.hid (fun (W' : World) => l1Most_any b ((froL x l (nw (bitB k) x)).length : Int) W')
          have HUP := Lib.hid (WUp.succ hn hwu.out hk1.out (by have := HN.out; omega) hbt.out)
          rw [← HFL.out] at HUP
          have HAPP := Lib.hid (rowF_app k W (max b ((froL x l (nw (bitB k) x)).length : Int)))
          clear hbt hwu HPOS
          generalize froL x l (nw (bitB k) x) = fl at *
          go_wp2_with fail
          refine wp_region_held_drew (S := (fun w' : World => w'.cell? ⟨w.heap.size, 0, none⟩ = some (.int .i64 (x : Int)) ∧ w'.cell? ⟨w.heap.size, 1, none⟩ = some (.slice A l.length c))) (by kernel_rfl) (by (try dsimp only); simp [*]) (fun hHeld => ?_)
          change wpAnyH _ _ _ _ _ _ #[false, false, false, false, false, false, false, false, false, false, false, false, false] _ _
          refine wpAnyH_take (i := 0) (oi := ⟨some 48, _, _, _, _, _⟩) (v := ?_) rfl (by kernel_rfl) (by kernel_rfl) (by kernel_rfl) (fun _ _ _ h => h) (Or.inl ⟨by rfl, ?_⟩) (by assumption) ?_
          rotate_left
          · (intro w hSw; (try dsimp only at hSw); go_simp; (try (with_reducible rfl)))
          try simp only [Act.put, List.setIfInBounds_toArray, List.set_cons_zero, List.set_cons_succ]
          refine wpAnyH_take (i := 1) (oi := ⟨some 49, _, _, _, _, _⟩) (v := ?_) rfl (by kernel_rfl) (by kernel_rfl) (by kernel_rfl) (fun _ _ _ h => h) (Or.inl ⟨by rfl, ?_⟩) (by assumption) ?_
          rotate_left
          · (intro w hSw; (try dsimp only at hSw); go_simp; (try (with_reducible rfl)))
          try simp only [Act.put, List.setIfInBounds_toArray, List.set_cons_zero, List.set_cons_succ]
          refine wpAnyH_take (i := 2) (oi := ⟨some 50, _, _, _, _, _⟩) (v := ?_) rfl (by kernel_rfl) (by kernel_rfl) (by kernel_rfl) (fun _ _ _ h => h) (Or.inl ⟨by rfl, ?_⟩) (by assumption) ?_
          rotate_left
          · (intro w hSw; (try dsimp only at hSw); go_simp; (try (with_reducible rfl)))
          try simp only [Act.put, List.setIfInBounds_toArray, List.set_cons_zero, List.set_cons_succ]
          refine wpAnyH_take (i := 3) (oi := ⟨some 51, _, _, _, _, _⟩) (v := ?_) rfl (by kernel_rfl) (by kernel_rfl) (by kernel_rfl) (fun _ _ _ h => h) (Or.inl ⟨by rfl, ?_⟩) (by assumption) ?_
          rotate_left
          · (intro w hSw; (try dsimp only at hSw); go_simp; (try (with_reducible rfl)))
          try simp only [Act.put, List.setIfInBounds_toArray, List.set_cons_zero, List.set_cons_succ]
          refine wpAnyH_take (i := 4) (oi := ⟨some 52, _, _, _, _, _⟩) (v := ?_) rfl (by kernel_rfl) (by kernel_rfl) (by kernel_rfl) (fun _ _ _ h => h) (Or.inl ⟨by rfl, ?_⟩) (by assumption) ?_
          rotate_left
          · (intro w hSw; (try dsimp only at hSw); go_simp; (try (with_reducible rfl)))
          try simp only [Act.put, List.setIfInBounds_toArray, List.set_cons_zero, List.set_cons_succ]
          refine wpAnyH_take (i := 5) (oi := ⟨some 53, _, _, _, _, _⟩) (v := ?_) rfl (by kernel_rfl) (by kernel_rfl) (by kernel_rfl) (fun _ _ _ h => h) (Or.inl ⟨by rfl, ?_⟩) (by assumption) ?_
          rotate_left
          · (intro w hSw; (try dsimp only at hSw); go_simp; (try (with_reducible rfl)))
          try simp only [Act.put, List.setIfInBounds_toArray, List.set_cons_zero, List.set_cons_succ]
          refine wpAnyH_ready (rs := [6]) (by kernel_rfl) (by simp) ?_
          refine AllReadyH.cons (o := ⟨some 54, _, _, _, _, _⟩) rfl (fun K hK => ?_) AllReadyH.nil
          go_simp
          refine (HBI.out _).mono ?_; rintro e w3 ⟨A5, c5, rfl, o5, b5⟩; have d3 : Below wo.heap.size wo w3 := btrans (Below.refl _ _).drew b5; have HG3 := Lib.hid (HG.out.below d3 HG.out.lt); have HR3 := Lib.hid (own_below HR.out d3); obtain ⟨k0, k1, -, -⟩ := HG3.out.two; have HE3 := Lib.hid (HB.out.trans (d3.mono (by omega))); have HF3 := Lib.hid (HFR.out w3 _ (.inr HE3.out) (Reads.of_own o5))
          go_wp2_with fail
          refine hK.out _ _ (by (try dsimp only); simp [*]) (fun hHeld => ?_)
          clear hK K
          try simp only [List.setIfInBounds_toArray, List.set_cons_zero, List.set_cons_succ]
          refine wpAnyH_ready (rs := [7]) (by kernel_rfl) (by simp) ?_
          refine AllReadyH.cons (o := ⟨some 55, _, _, _, _, _⟩) rfl (fun K hK => ?_) AllReadyH.nil
          go_simp
          refine HF3.out.mono ?_; rintro e w4 ⟨A7, c7, rfl, o7, b7⟩; have HG4 := Lib.hid (HG3.out.below b7 HG3.out.lt); have HR4 := Lib.hid (own_below HR3.out b7); obtain ⟨k2, k3, -, -⟩ := HG4.out.two; have HE4 := Lib.hid (HE3.out.trans (b7.mono (by have := HE3.out.size; omega))); have hs4 := HE4.out.size
          go_wp2_with fail
          refine hK.out _ _ (by (try dsimp only); simp [*]) (fun hHeld => ?_)
          clear hK K
          try simp only [List.setIfInBounds_toArray, List.set_cons_zero, List.set_cons_succ]
          refine wpAnyH_take (i := 8) (oi := ⟨some 56, _, _, _, _, _⟩) (v := ?_) rfl (by kernel_rfl) (by kernel_rfl) (by kernel_rfl) (fun _ _ _ h => h) (Or.inl ⟨by rfl, ?_⟩) (by assumption) ?_
          rotate_left
          · (intro w hSw; (try dsimp only at hSw); go_simp; (try (with_reducible rfl)))
          try simp only [Act.put, List.setIfInBounds_toArray, List.set_cons_zero, List.set_cons_succ]
          refine wpAnyH_ready (rs := [9]) (by kernel_rfl) (by simp) ?_
          refine AllReadyH.cons (o := ⟨some 57, _, _, _, _, _⟩) rfl (fun K hK => ?_) AllReadyH.nil
          go_simp
          refine (HMO.out _).mono ?_; rintro e w' ⟨rfl, rfl⟩
          go_wp2_with fail
          refine hK.out _ _ (by (try dsimp only); simp [*]) (fun hHeld => ?_)
          clear hK K
          try simp only [List.setIfInBounds_toArray, List.set_cons_zero, List.set_cons_succ]
          refine wpAnyH_ready (rs := [10]) (by kernel_rfl) (by simp) ?_
          refine AllReadyH.cons rfl (fun K hK => ?_) AllReadyH.nil
          go_simp
          refine hK.out _ _ (⟨keep_al k2, keep_al k3⟩) (fun hHeld => ?_)
          clear hK K
          try simp only [List.setIfInBounds_toArray, List.set_cons_zero, List.set_cons_succ]
          refine wpAnyH_ready (rs := [11]) (by kernel_rfl) (by simp) ?_
          refine AllReadyH.cons rfl (fun K hK => ?_) AllReadyH.nil
          (refine step_append_lies _ rfl (.tmp 48) (.tmp 58) 32 rfl (w.heap.size + 1) 3 i0 (.int .i64 0) 1 8 Try.underlying32 hi hz0 hz1 hz2 rfl (by decide) (.slice (some ⟨g6, 0, none⟩) k c6) k (cellsI (rowF k W)) rfl (HR4.out.alloc _) ⟨w4.heap.size, 0, none⟩ 1 1 [.int .i64 (max b (fl.length : Int))] rfl rfl (cell_one_new _ _ _) (fun x hx => by simp at hx; subst hx; rfl) (by decide) (by unfold maxLen; omega) (by omega) (by simp; omega) (w4.heap.size + 1) (by simp) ?_; intro g8 cap8 w8 hown8 hgrow8 lies8 lt8; have hG8 := (HG4.out.alloc (.cells #[.int .i64 (max b (fl.length : Int))] 3)).grown hgrow8 (fun e => own_ne HR4.out HG4.out (by decide) e.symm); obtain ⟨k4, k5, -, -⟩ := hG8.two)
          refine hK.out _ _ (⟨k4, k5⟩) (fun hHeld => ?_)
          clear hK K
          try simp only [Act.put, List.setIfInBounds_toArray, List.set_cons_zero, List.set_cons_succ]
          refine wpAnyH_take (i := 12) (oi := ⟨some 3, _, _, _, _, _⟩) (v := ?_) rfl (by kernel_rfl) (by kernel_rfl) (by kernel_rfl) (fun _ _ _ h => h) (Or.inl ⟨by rfl, ?_⟩) (by assumption) ?_
          rotate_left
          · (intro w hSw; (try dsimp only at hSw); go_simp; (try (with_reducible rfl)))
          try simp only [Act.put, List.setIfInBounds_toArray, List.set_cons_zero, List.set_cons_succ]
          refine wpAnyH_done (by kernel_rfl) ?_ _
          have HRL := Lib.hid (rowF_len k W)
          have HO8 : Hid (w8.ownsRow (w.heap.size + 1) 3 1 (.slice (some ⟨g8, 0, none⟩) (k + 1) cap8) (k + 1) (cellsI (rowF (k + 1) (upd W k (max b (fl.length : Int)))))) := by
            show World.ownsRow _ _ _ _ _ _ _
            rw [HAPP.out, cellsI_app]
            exact hown8
          have HB8 := Lib.hid (HE4.out.trans (((Below.refl (w.heap.size + 1) w4).alloc (by omega) (.cells #[.int .i64 (max b (fl.length : Int))] 3)).grown hgrow8 (by simp; omega) (fun j e => (HR4.out.lt j e).1)))
          clear hG8 hown8 hgrow8 lies8 lt8 k0 k1 k2 k3 k4 k5 p0 p1 b5 b7 d3 hHeld
          go_wp2_with fail
          go_roundg g2
          case measure => omega
          case rel => exact ⟨k + 1, _, _, rfl, by omega, Lib.hid (by omega), by go_num, HO8.out, HUP, HB8.out⟩
        | succ g4 =>
          have hlt : x < n := by omega
          have hlt' : (x : Int) < (n : Int) := by omega
          have hb0 := bit_walk k x
          cases hbit : bitB k x with
          | false =>
            have HP := Lib.hid (hbt.out.skip hbit)
            rw [hbit] at hb0
            clear hbit hbt
            go_wp2_with fail
            go_roundg g4
            case measure => omega
            case rel => exact ⟨x + 1, b, by omega, by go_num, rfl, HP, rfl⟩
          | true =>
            rw [hbit] at hb0
            have hx8 : x < 8 := by omega
            have hsub := sub_le (by omega : k < 256) hx8 hbit
            have hPx := Nat.two_pow_pos x
            have hsx : IntKind.i64.wrap ((2 : Int) ^ x) = ((2 ^ x : Nat) : Int) := by
              rw [show ((2 : Int) ^ x) = ((2 ^ x : Nat) : Int) from by simp]
              exact IntWalk.i64_in _ (by omega)
            have HTK := Lib.hid (fun (hl : b < 0 ∨ W (k - 2 ^ x) < b) => hbt.out.take hlt hbit hl HPOS.out)
            have HKP := Lib.hid (fun (h0 : ¬ b < 0) (hl : ¬ W (k - 2 ^ x) < b) => BtAt.keep (x := x) hbt.out h0 hl)
            have f1 := HR.out.cellAt (k - 2 ^ x) (by omega)
            rw [cellsI_at (rowF_at (by omega))] at f1
            obtain ⟨P, hP⟩ : ∃ P, P = 2 ^ x := ⟨_, rfl⟩
            rw [← hP] at hsub hPx hsx HTK HKP f1
            obtain ⟨q, hq⟩ : ∃ q, q = k - P := ⟨_, rfl⟩
            rw [← hq] at HTK HKP f1
            have hs1 : (k : Int) - (P : Int) = (q : Int) := by omega
            have hs2 : IntKind.i64.wrap ((k : Int) - (P : Int)) = (q : Int) := by rw [hs1]; exact IntWalk.i64_in _ (by omega)
            have hq1 : (q : Int) < (k : Int) := by omega
            have hq0 : (0 : Int) ≤ (q : Int) := by omega
            generalize W q = u at *
            clear hbit hbt hP hq
            by_cases hl0 : b < 0
            · have HP := Lib.hid (HTK.out (.inl hl0))
              go_wp2_with fail
              go_roundg g4
              case measure => omega
              case rel => exact ⟨x + 1, u, by omega, by go_num, rfl, HP, rfl⟩
            · by_cases hl1 : u < b
              · have HP := Lib.hid (HTK.out (.inr hl1))
                go_wp2_with fail
                go_roundg g4
                case measure => omega
                case rel => exact ⟨x + 1, u, by omega, by go_num, rfl, HP, rfl⟩
              · have HP := Lib.hid (HKP.out hl0 hl1)
                go_wp2_with fail
                go_roundg g4
                case measure => omega
                case rel => exact ⟨x + 1, b, by omega, by go_num, rfl, HP, rfl⟩
set_option maxHeartbeats 1000000 in
set_option maxRecDepth 100000 in
theorem l6Pathwidth_any (n : Nat) (v : Value) (l : List Ed) (w : World) (h : Edges w v l) (hl : l.length ≤ 1048576) (hn : n ≤ 8) :
    Calls Try.prog 57 #[.agg #[.int .i64 (n : Int), v]] w fun e w' => e = .returned (.int .i64 (pwV (n : Int) l)) ∧ Below w.heap.size w w' := by
  obtain ⟨A, c, rfl, -⟩ := h.form
  have hp := pow8 hn
  have hp0 := Nat.two_pow_pos n
  have b0 : Below w.heap.size w (w.alloc (.cells #[.int .i64 (n : Int), .slice A l.length c] 28)) := (Below.refl _ _).alloc (Nat.le_refl _) _
  have g0 := Blk.new w 28 #[.int .i64 (n : Int), .slice A l.length c]
  have HW := Lib.hid (fun (W : World) (hW : Below w.heap.size w W) => l6Widths_any n (.slice A l.length c) l W (h.below hW) hl hn)
  have HPW := Lib.hid (fun (W : Nat → Int) (hW : WUp n (frontC l n) (2 ^ n) W) => pw_w hn hW)
  have hsh0 : ((2 : Int) ^ n) = ((2 ^ n : Nat) : Int) := by simp
  obtain ⟨N, hN⟩ : ∃ N, N = 2 ^ n := ⟨_, rfl⟩
  rw [← hN] at hp hp0 HW HPW hsh0
  have hsh : IntKind.i64.wrap ((2 : Int) ^ n) = (N : Int) := by rw [hsh0]; exact IntWalk.i64_in _ (by omega)
  have hN1 : (N : Int) - 1 = ((N - 1 : Nat) : Int) := by omega
  have hN2 : IntKind.i64.wrap ((N - 1 : Nat) : Int) = ((N - 1 : Nat) : Int) := IntWalk.i64_in _ (by omega)
  have hN3 : ((N - 1 : Nat) : Int) < (N : Int) := by omega
  have HB0 := Lib.hid b0
  have HG0 := Lib.hid g0
  have hn0 : (0 : Int) ≤ (n : Int) := by omega
  clear h b0 hN hsh0
  go_enter Try.func57, Try.ntmps57
  obtain ⟨p0, p1, -, -⟩ := g0.two
  clear g0
  have HW1 := Lib.hid (HW.out _ HB0.out.drew)
  go_wp2_with fail
  refine wp_region_held_drew (S := (fun w' : World => w'.cell? ⟨w.heap.size, 0, none⟩ = some (.int .i64 (n : Int)) ∧ w'.cell? ⟨w.heap.size, 1, none⟩ = some (.slice A l.length c))) (by kernel_rfl) (by (try dsimp only); simp [*]) (fun hHeld => ?_)
  change wpAnyH _ _ _ _ _ _ #[false, false, false, false, false, false, false, false, false] _ _
  refine wpAnyH_take (i := 0) (oi := ⟨some 3, _, _, _, _, _⟩) (v := ?_) rfl (by kernel_rfl) (by kernel_rfl) (by kernel_rfl) (fun _ _ _ h => h) (Or.inl ⟨by rfl, ?_⟩) (by assumption) ?_
  rotate_left
  · (intro w hSw; (try dsimp only at hSw); go_simp; (try (with_reducible rfl)))
  try simp only [Act.put, List.setIfInBounds_toArray, List.set_cons_zero, List.set_cons_succ]
  refine wpAnyH_take (i := 2) (oi := ⟨some 5, _, _, _, _, _⟩) (v := ?_) rfl (by kernel_rfl) (by kernel_rfl) (by kernel_rfl) (fun _ _ _ h => h) (Or.inl ⟨by rfl, ?_⟩) (by assumption) ?_
  rotate_left
  · (intro w hSw; (try dsimp only at hSw); go_simp; (try (with_reducible rfl)))
  try simp only [Act.put, List.setIfInBounds_toArray, List.set_cons_zero, List.set_cons_succ]
  refine wpAnyH_take (i := 3) (oi := ⟨some 6, _, _, _, _, _⟩) (v := ?_) rfl (by kernel_rfl) (by kernel_rfl) (by kernel_rfl) (fun _ _ _ h => h) (Or.inl ⟨by rfl, ?_⟩) (by assumption) ?_
  rotate_left
  · (intro w hSw; (try dsimp only at hSw); go_simp; (try (with_reducible rfl)))
  try simp only [Act.put, List.setIfInBounds_toArray, List.set_cons_zero, List.set_cons_succ]
  refine wpAnyH_take (i := 4) (oi := ⟨some 7, _, _, _, _, _⟩) (v := ?_) rfl (by kernel_rfl) (by kernel_rfl) (by kernel_rfl) (fun _ _ _ h => h) (Or.inl ⟨by rfl, ?_⟩) (by assumption) ?_
  rotate_left
  · (intro w hSw; (try dsimp only at hSw); go_simp; (try (with_reducible rfl)))
  try simp only [Act.put, List.setIfInBounds_toArray, List.set_cons_zero, List.set_cons_succ]
  refine wpAnyH_take (i := 5) (oi := ⟨some 8, _, _, _, _, _⟩) (v := ?_) rfl (by kernel_rfl) (by kernel_rfl) (by kernel_rfl) (fun _ _ _ h => h) (Or.inl ⟨by rfl, ?_⟩) (by assumption) ?_
  rotate_left
  · (intro w hSw; (try dsimp only at hSw); go_simp; (try (with_reducible rfl)))
  try simp only [Act.put, List.setIfInBounds_toArray, List.set_cons_zero, List.set_cons_succ]
  refine wpAnyH_ready (rs := [1]) (by kernel_rfl) (by simp) ?_
  refine AllReadyH.cons (o := ⟨some 4, _, _, _, _, _⟩) rfl (fun K hK => ?_) AllReadyH.nil
  go_simp
  refine HW1.out.mono ?_; rintro e w2 ⟨A9, c9, C, rfl, o9, hwu, b9⟩; have HPV := Lib.hid (HPW.out C hwu); have d2 : Below w.heap.size w w2 := btrans HB0.out (btrans (Below.refl _ _).drew b9); have HE2 := Lib.hid d2; obtain ⟨k0, k1, -, -⟩ := (HG0.out.below (btrans (Below.refl _ _).drew b9) HG0.out.lt).two; obtain ⟨g9, rfl⟩ := own_lit o9 hp0; have f9 := o9.cellAt (N - 1) (by omega); rw [cellsI_at (rowF_at (by omega))] at f9; clear o9 b9 d2 hwu
  go_wp2_with fail
  refine hK.out _ _ (by (try dsimp only); simp [*]) (fun hHeld => ?_)
  clear hK K
  try simp only [List.setIfInBounds_toArray, List.set_cons_zero, List.set_cons_succ]
  refine wpAnyH_take (i := 6) (oi := ⟨some 9, _, _, _, _, _⟩) (v := ?_) rfl (by kernel_rfl) (by kernel_rfl) (by kernel_rfl) (fun _ _ _ h => h) (Or.inl ⟨by rfl, ?_⟩) (by assumption) ?_
  rotate_left
  · (intro w hSw; (try dsimp only at hSw); go_simp; (try (with_reducible rfl)))
  try simp only [Act.put, List.setIfInBounds_toArray, List.set_cons_zero, List.set_cons_succ]
  refine wpAnyH_ready (rs := [7]) (by kernel_rfl) (by simp) ?_
  refine AllReadyH.cons rfl (fun K hK => ?_) AllReadyH.nil
  go_simp
  refine hK.out _ _ (⟨k0, k1⟩) (fun hHeld => ?_)
  clear hK K
  try simp only [List.setIfInBounds_toArray, List.set_cons_zero, List.set_cons_succ]
  refine wpAnyH_take (i := 8) (oi := ⟨some 2, _, _, _, _, _⟩) (v := ?_) rfl (by kernel_rfl) (by kernel_rfl) (by kernel_rfl) (fun _ _ _ h => h) (Or.inl ⟨by rfl, ?_⟩) (by assumption) ?_
  rotate_left
  · (intro w hSw; (try dsimp only at hSw); go_simp; (try (with_reducible rfl)))
  try simp only [Act.put, List.setIfInBounds_toArray, List.set_cons_zero, List.set_cons_succ]
  refine wpAnyH_done (by kernel_rfl) ?_ _
  go_wp2_with fail
  go_ret
  exact ⟨ret_int HPV.out.symm, HE2.out⟩
set_option maxHeartbeats 1000000 in
set_option maxRecDepth 100000 in
theorem specPath_any (s : Int) (v : Value) (l : List Ed) (w : World) (h : Edges w v l) (hl : l.length ≤ 1048576) (hs1 : -9223372036854775808 ≤ s) (hs2 : s ≤ 9223372036854775807) :
    Calls Try.prog 12 #[.agg #[.int .i64 s, v]] w (RetN w (P2.Good s l) (pwV s l)) := by
  obtain ⟨A, c, rfl, -⟩ := h.form
  have H := Lib.hid h
  have b0 : Below w.heap.size w (w.alloc (.cells #[.int .i64 s, .slice A l.length c] 28)) := (Below.refl _ _).alloc (Nat.le_refl _) _
  have g0 := Blk.new w 28 #[.int .i64 s, .slice A l.length c]
  have HG := Lib.hid (l2Good_any s _ l _ (h.below b0) hl hs1 hs2)
  clear h
  by_cases hgd : P2.Good s l
  · rw [goodB_yes hgd] at HG
    have h0 := hgd.1
    have h8 := hgd.2.1
    obtain ⟨n, rfl⟩ : ∃ n : Nat, s = (n : Int) := ⟨s.toNat, by omega⟩
    have hn : n ≤ 8 := by omega
    have HGD := Lib.hid hgd
    clear hgd
    go_enter Try.func12, Try.ntmps12
    go_wp2_with fail
    refine HG.out.mono ?_
    rintro e w1 ⟨rfl, b1⟩
    have e1 := btrans b0 b1
    have g1 := g0.below b1 g0.lt
    obtain ⟨p0, p1, -, -⟩ := g1.two
    clear HG b0 b1 g0
    go_wp2_with fail
    refine (l6Pathwidth_any n (.slice A l.length c) l w1 (H.out.below e1) hl hn).mono ?_
    rintro e w2 ⟨rfl, b2⟩
    have HE2 := Lib.hid (btrans e1 b2)
    clear b2 e1 g1 p0 p1
    go_wp2_with fail
    go_ret2
    exact RetN.yes HGD.out HE2.out
  · rw [goodB_no hgd] at HG
    have HN := Lib.hid hgd
    clear hgd
    go_enter Try.func12, Try.ntmps12
    go_wp2_with fail
    refine HG.out.mono ?_
    rintro e w1 ⟨rfl, b1⟩
    go_wp2_with fail
    go_ret2
    exact RetN.no HN.out (btrans b0 b1)
end Go.Proofs.Yteacpmdgojennaa.costs
