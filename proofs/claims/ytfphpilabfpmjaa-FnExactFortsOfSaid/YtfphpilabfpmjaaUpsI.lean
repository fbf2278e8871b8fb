/- The contracts of bits.Len below 256 and of the program's setsUpTo. -/
import Derived.Handy
import Derived.Test.YtfphpilabfpmjaaUpsM
import Derived.Test.YtfphpilabfpmjaaClosed
import Derived.Deep.AppendLies
import Derived.Deep.RegionHeld3
import Derived.Deep.DeepCutAuto
namespace Go.Proofs.Ytfphpilabfpmjaa.ups
open Go.RowKit P2 words edges ints good adjs fns sets rets covs bitsI
set_option linter.unusedVariables false

theorem len_is (D : ByteArray) (hD : (List.range 256).all (fun c => (D.data.getD c 0).toNat == lenN c) = true) (c : Nat) (hc : c < 256) (h : c < D.size) : wrap64 (wrap64 ((D[c]'h).toNat : Int)) = (lenN c : Int) := by
  have h1 := beq_iff_eq.1 (List.all_eq_true.1 hD c (List.mem_range.2 hc))
  have h2 : D.data.getD c 0 = D[c]'h := by
    show D.data.getD c 0 = D.data[c]'h
    have h' : c < D.data.size := h
    unfold Array.getD
    rw [dif_pos h']
    rfl
  rw [h2] at h1
  have h3 := len_le ⟨c, hc⟩
  simp only at h3
  have e : wrap64 (lenN c : Int) = (lenN c : Int) := Go.IntWalk.wrap64_in _ (by omega)
  rw [h1, e, e]
set_option maxHeartbeats 1000000 in
set_option maxRecDepth 100000 in
theorem len64_any (c : Nat) (w : World) (hc : c < 256) :
    Calls Try.prog 119 #[.int .u64 (c : Int)] w fun e w' => e = .returned (.int .i64 (lenN c : Int)) ∧ w = w' := by
  have h1 : ¬ (4294967296 : Int) ≤ (c : Int) := by omega
  have h2 : ¬ (65536 : Int) ≤ (c : Int) := by omega
  have h3 : ¬ (256 : Int) ≤ (c : Int) := by omega
  go_enter Try.func119, Try.ntmps119
  go_wp2_with fail
  go_ret
  exact ⟨ret_int (len_is _ (by kernel_rfl) c hc _), rfl⟩
theorem len_any (c : Nat) (w : World) (hc : c < 256) :
    Calls Try.prog 109 #[.int .u64 (c : Int)] w fun e w' => e = .returned (.int .i64 (lenN c : Int)) ∧ w = w' := by
  have HO := Lib.hid (len64_any c w hc)
  go_enter Try.func109, Try.ntmps109
  go_wp2_with fail
  refine HO.out.mono ?_
  rintro e w' ⟨rfl, rfl⟩
  go_wp2_with fail
  go_ret
  exact ⟨rfl, rfl⟩
/-- behind an append of one word -/
theorem pushU {w1 w2 : World} {B : Nat} {s v2 : Value} {m : List Nat} {x : Nat} {o : Obj} (hrow : w1.ownsRow B 53 1 s m.length (cellsU m)) (hown : w2.ownsRow B 53 1 v2 (m.length + 1) (cellsU m ++ [.int .u64 (x : Int)]))
    (hg : (w1.alloc o).drew.grownBy w2 s.ownBlock) (hB : B ≤ w1.heap.size) : w2.ownsRow B 53 1 v2 (m ++ [x]).length (cellsU (m ++ [x])) ∧ Below B w1 w2 :=
  ⟨by rw [show cellsU (m ++ [x]) = cellsU m ++ [.int .u64 (x : Int)] from by simp [cellsU], List.length_append]; exact hown, ((Below.refl B w1).alloc hB _).drew.grown hg (by simp; omega) (fun j e => (hrow.lt j e).1)⟩
theorem bfs_mem {n m f i c : Nat} {L F : List Nat} (h : L[i]? = some c) (he : L.take i ++ bfsN n m (f + 1) (L.drop i) = F) : c ∈ F := by
  obtain ⟨h1, h2⟩ := List.getElem?_eq_some_iff.1 h
  rw [List.drop_eq_getElem_cons h1, h2] at he
  unfold bfsN at he
  rw [← he]
  split <;> simp
theorem len_le_n : ∀ n : Fin 9, ∀ c : Fin 256, c.1 < 2 ^ n.1 → lenN c.1 ≤ n.1 := by decide +kernel
theorem keep_alU {w : World} {p : Addr} {v : Value} {o : Obj} (h : w.cell? p = some v) : (w.alloc o).cell? p = some v :=
  ((Below.refl w.heap.size w).alloc (Nat.le_refl _) o |>.cell (p := p) (World.block_lt_of_cell? w p h)).trans h
set_option maxHeartbeats 4000000 in
set_option maxRecDepth 100000 in
theorem setsUpTo_own (n m : Nat) (w : World) (hn : n ≤ 8) (hm : m ≤ 8) :
    Calls Try.prog 79 #[.int .i64 (n : Int), .int .i64 (m : Int)] w fun e w' => ∃ A c, e = .returned (.slice A (setsN n m).length c) ∧ w'.ownsRow w.heap.size 53 1 (.slice A (setsN n m).length c) (setsN n m).length (cellsU (setsN n m)) ∧ Below w.heap.size w w' := by
  obtain ⟨i0, hi, hz0, hz1, hz2⟩ := info_parts infoU
  have HCT := Lib.hid (fun (c : Nat) (W : World) (h : c < 256) => count_any c W h)
  have HLN := Lib.hid (fun (c : Nat) (W : World) (h : c < 256) => len_any c W h)
  have o0 := World.ownsRow_lit (base := w.heap.size) (e := 53) (size := 1) w #[.int .u64 0] 1 (Nat.le_refl _) (by unfold maxLen; omega) rfl
  have HO0 : Hid ((w.alloc (.cells #[.int .u64 0] 53)).ownsRow w.heap.size 53 1 (.slice (some ⟨w.heap.size, 0, none⟩) 1 1) [0].length (cellsU [0])) := o0
  have HB0 : Hid (Below w.heap.size w (w.alloc (.cells #[.int .u64 0] 53))) := (Below.refl _ _).alloc (Nat.le_refl _) _
  have hsl := sets_len hn hm
  have HF := Lib.hid (show ([0] : List Nat).take 0 ++ bfsN n m 300 (([0] : List Nat).drop 0) = setsN n m from rfl)
  have HMS := Lib.hid (fun c => (mem_sets (c := c) hn hm))
  clear o0
  go_enter Try.func79, Try.ntmps79
  go_wp2_with fail
  go_loopg [5, 6] 300 (fun g sv iv wr => ∃ (i : Nat) (L : List Nat) (ow : Value), ow = sv ∧ i + g = 300 ∧ iv = .int .i64 (i : Int) ∧ Hid (L.take i ++ bfsN n m g (L.drop i) = setsN n m) ∧ wr.ownsRow w.heap.size 53 1 ow L.length (cellsU L) ∧ Below w.heap.size w wr)
  case atStart => exact ⟨0, [0], _, rfl, rfl, rfl, HF, HO0.out, HB0.out⟩
  case round =>
    clear HF HO0 HB0
    obtain ⟨i, L, ow, rfl, hig, rfl, hf, hrow, hB⟩ := hrel
    obtain ⟨A4, c4, rfl⟩ := own_form hrow
    have hLl := bfs_len hf.out
    by_cases hlt : i < L.length
    · have hlt' : (i : Int) < (L.length : Int) := by omega
      cases gk with
      | zero => omega
      | succ g2 =>
        obtain ⟨c, hc⟩ : ∃ c, L[i]? = some c := ⟨_, List.getElem?_eq_getElem hlt⟩
        have hcm := (HMS.out c).1 (bfs_mem hc hf.out)
        have hc256 : c < 256 := Nat.lt_of_lt_of_le hcm.1 (pow_le hn)
        obtain ⟨_, _, hf4, hcc⟩ := (show Nums wr (.slice A4 L.length c4) L from Reads.of_own hrow).form
        cases hf4
        obtain ⟨g5, o5, rfl, c0⟩ := hcc i c hc
        clear hcc
        by_cases ho : onesN c < m
        · have ho' : (onesN c : Int) < (m : Int) := by omega
          have HFS := Lib.hid (bfs_step hc ho hf.out)
          have hln := len_le_n ⟨n, by omega⟩ ⟨c, hc256⟩ hcm.1
          simp only at hln
          have HX0 : Hid (wr.ownsRow w.heap.size 53 1 (.slice (some ⟨g5, o5, none⟩) L.length c4) (L ++ growT c (lenN c)).length (cellsU (L ++ growT c (lenN c)))) := by
            show World.ownsRow _ _ _ _ _ _ _
            rw [growT_zero c (Nat.le_refl _), List.append_nil]
            exact hrow
          have HB := Lib.hid hB
          have HC := Lib.hid hc
          have HLn := Lib.hid hLl
          clear hrow hB hcm hc
          go_wp2_with fail
          refine (HCT.out c _ hc256).mono ?_
          rintro e w' ⟨rfl, rfl⟩
          go_wp2_with fail
          refine (HLN.out c _ hc256).mono ?_
          rintro e w' ⟨rfl, rfl⟩
          clear c0
          go_wp2_with fail
          obtain ⟨wo, hwo⟩ : ∃ wo, wo = wr := ⟨_, rfl⟩
          subst hwo
          go_loopg [5, 7] (n - lenN c) (fun g sv xv wr => ∃ (x : Nat) (ow : Value), ow = sv ∧ x + g = n ∧ Hid (lenN c ≤ x) ∧ xv = .int .i64 (x : Int) ∧ wr.ownsRow w.heap.size 53 1 ow (L ++ growT c x).length (cellsU (L ++ growT c x)) ∧ Below w.heap.size w wr)
          case atStart => exact ⟨lenN c, _, rfl, by omega, Nat.le_refl _, rfl, HX0.out, HB.out⟩
          case round =>
            clear HX0 HB
            obtain ⟨x, ow, rfl, hxg, hxl, rfl, hrow, hB⟩ := hrel
            obtain ⟨A6, c6, rfl⟩ := own_form hrow
            cases gk with
            | zero =>
              obtain rfl : x = n := by omega
              have HR := Lib.hid hrow
              have HB := Lib.hid hB
              clear hrow hB
              go_wp2_with fail
              go_roundg g2
              case measure => omega
              case rel => exact ⟨i + 1, _, _, rfl, by omega, by go_num, HFS, HR.out, HB.out⟩
            | succ g3 =>
              have hxn : x < n := by omega
              have hxn' : (x : Int) < (n : Int) := by omega
              have hgl := growT_len c x
              have hLg : (L ++ growT c x).length ≤ 264 := by rw [List.length_append]; have := HLn.out; omega
              have hi2 : i < (L ++ growT c x).length := by rw [List.length_append]; omega
              have hi2' : (i : Int) < ((L ++ growT c x).length : Int) := by omega
              obtain ⟨_, _, hf4, hcc⟩ := (show Nums wr (.slice A6 (L ++ growT c x).length c6) (L ++ growT c x) from Reads.of_own hrow).form
              cases hf4
              obtain ⟨g7, o7, rfl, c0⟩ := hcc i c (by rw [List.getElem?_append_left (by omega)]; exact HC.out)
              have hor := or_walk c x hc256 (by omega)
              have HGS : Hid (L ++ growT c (x + 1) = (L ++ growT c x) ++ [c ||| 2 ^ x]) := by show _ = _; rw [growT_succ hxl.out, List.append_assoc]
              have HB := Lib.hid hB
              have HR := Lib.hid hrow
              have hsz := hB.size
              clear hcc hgl hB hrow
              generalize L ++ growT c x = M at *
              generalize c ||| 2 ^ x = z at *
              go_wp2_with fail
              refine wp_region_held_drew (S := (fun w' : World => w'.heap.size = 0 ∨ True)) (by kernel_rfl) (by (try dsimp only); simp [*]) (fun hHeld => ?_)
              change wpAnyH _ _ _ _ _ _ #[false, false, false, false, false, false, false, false, false, false, false] _ _
              refine wpAnyH_take (i := 0) (oi := ⟨some 34, _, _, _, _, _⟩) (v := ?_) rfl (by kernel_rfl) (by kernel_rfl) (by kernel_rfl) (fun _ _ _ h => h) (Or.inl ⟨by rfl, ?_⟩) (by assumption) ?_
              rotate_left
              · (intro w hSw; (try dsimp only at hSw); go_simp; (try (with_reducible rfl)))
              try simp only [Act.put, List.setIfInBounds_toArray, List.set_cons_zero, List.set_cons_succ]
              refine wpAnyH_take (i := 1) (oi := ⟨some 35, _, _, _, _, _⟩) (v := ?_) rfl (by kernel_rfl) (by kernel_rfl) (by kernel_rfl) (fun _ _ _ h => h) (Or.inl ⟨by rfl, ?_⟩) (by assumption) ?_
              rotate_left
              · (intro w hSw; (try dsimp only at hSw); go_simp; (try (with_reducible rfl)))
              try simp only [Act.put, List.setIfInBounds_toArray, List.set_cons_zero, List.set_cons_succ]
              refine wpAnyH_take (i := 2) (oi := ⟨some 36, _, _, _, _, _⟩) (v := ?_) rfl (by kernel_rfl) (by kernel_rfl) (by kernel_rfl) (fun _ _ _ h => h) (Or.inl ⟨by rfl, ?_⟩) (by assumption) ?_
              rotate_left
              · (intro w hSw; (try dsimp only at hSw); go_simp; (try (with_reducible rfl)))
              try simp only [Act.put, List.setIfInBounds_toArray, List.set_cons_zero, List.set_cons_succ]
              refine wpAnyH_take (i := 3) (oi := ⟨some 37, _, _, _, _, _⟩) (v := ?_) rfl (by kernel_rfl) (by kernel_rfl) (by kernel_rfl) (fun _ _ _ h => h) (Or.inl ⟨by rfl, ?_⟩) (by assumption) ?_
              rotate_left
              · (intro w hSw; (try dsimp only at hSw); go_simp; (try (with_reducible rfl)))
              try simp only [Act.put, List.setIfInBounds_toArray, List.set_cons_zero, List.set_cons_succ]
              refine wpAnyH_take (i := 5) (oi := ⟨some 39, _, _, _, _, _⟩) (v := ?_) rfl (by kernel_rfl) (by kernel_rfl) (by kernel_rfl) (fun _ _ _ h => h) (Or.inl ⟨by rfl, ?_⟩) (by assumption) ?_
              rotate_left
              · (intro w hSw; (try dsimp only at hSw); go_simp; (try (with_reducible rfl)))
              try simp only [Act.put, List.setIfInBounds_toArray, List.set_cons_zero, List.set_cons_succ]
              refine wpAnyH_take (i := 6) (oi := ⟨some 40, _, _, _, _, _⟩) (v := ?_) rfl (by kernel_rfl) (by kernel_rfl) (by kernel_rfl) (fun _ _ _ h => h) (Or.inl ⟨by rfl, ?_⟩) (by assumption) ?_
              rotate_left
              · (intro w hSw; (try dsimp only at hSw); go_simp; (try (with_reducible rfl)))
              try simp only [Act.put, List.setIfInBounds_toArray, List.set_cons_zero, List.set_cons_succ]
              refine wpAnyH_ready (rs := [4]) (by kernel_rfl) (by simp) ?_
              refine AllReadyH.cons rfl (fun K hK => ?_) AllReadyH.nil
              go_simp
              refine hK.out _ _ (Or.inr trivial) (fun hHeld => ?_)
              clear hK K
              try simp only [List.setIfInBounds_toArray, List.set_cons_zero, List.set_cons_succ]
              refine wpAnyH_take (i := 7) (oi := ⟨some 41, _, _, _, _, _⟩) (v := ?_) rfl (by kernel_rfl) (by kernel_rfl) (by kernel_rfl) (fun _ _ _ h => h) (Or.inl ⟨by rfl, ?_⟩) (by assumption) ?_
              rotate_left
              · (intro w hSw; (try dsimp only at hSw); go_simp; (try (with_reducible rfl)))
              try simp only [Act.put, List.setIfInBounds_toArray, List.set_cons_zero, List.set_cons_succ]
              refine wpAnyH_ready (rs := [8]) (by kernel_rfl) (by simp) ?_
              refine AllReadyH.cons rfl (fun K hK => ?_) AllReadyH.nil
              go_simp
              refine hK.out _ _ (Or.inr trivial) (fun hHeld => ?_)
              clear hK K
              try simp only [List.setIfInBounds_toArray, List.set_cons_zero, List.set_cons_succ]
              refine wpAnyH_ready (rs := [9]) (by kernel_rfl) (by simp) ?_
              refine AllReadyH.cons rfl (fun K hK => ?_) AllReadyH.nil
              (refine step_append_lies _ rfl (.tmp 34) (.tmp 42) 50 rfl w.heap.size 53 i0 (.int .u64 0) 1 8 Try.underlying50 hi hz0 hz1 hz2 rfl (by decide) (.slice (some ⟨g7, o7, none⟩) M.length c6) M.length (cellsU M) rfl (HR.out.alloc _) ⟨wr.heap.size, 0, none⟩ 1 1 [.int .u64 (z : Int)] rfl rfl (cell_one_new _ _ _) (fun x hx => by simp at hx; subst hx; rfl) (by decide) (by unfold maxLen; omega) (by omega) (by simp; omega) (wr.heap.size + 1) (by simp) ?_; intro g8 cap8 w8 hown8 hgrow8 lies8 lt8)
              refine hK.out _ _ (Or.inr trivial) (fun hHeld => ?_)
              clear hK K
              try simp only [Act.put, List.setIfInBounds_toArray, List.set_cons_zero, List.set_cons_succ]
              refine wpAnyH_take (i := 10) (oi := ⟨some 5, _, _, _, _, _⟩) (v := ?_) rfl (by kernel_rfl) (by kernel_rfl) (by kernel_rfl) (fun _ _ _ h => h) (Or.inl ⟨by rfl, ?_⟩) (by assumption) ?_
              rotate_left
              · (intro w hSw; (try dsimp only at hSw); go_simp; (try (with_reducible rfl)))
              try simp only [Act.put, List.setIfInBounds_toArray, List.set_cons_zero, List.set_cons_succ]
              refine wpAnyH_done (by kernel_rfl) ?_ _
              obtain ⟨hown9, hB9⟩ := pushU HR.out hown8 hgrow8 hsz
              rw [← HGS.out] at hown9
              have HO9 := Lib.hid hown9
              have HB9 := Lib.hid (HB.out.trans hB9)
              clear hown9 hB9 hown8 hgrow8 lies8 lt8 hHeld c0
              go_wp2_with fail
              go_roundg g3
              case measure => omega
              case rel => exact ⟨x + 1, _, rfl, by omega, Nat.le_succ_of_le hxl.out, by go_num, HO9.out, HB9.out⟩
        · have ho' : ¬ (onesN c : Int) < (m : Int) := by omega
          have HE := Lib.hid (bfs_full hc ho hf.out)
          have HR := Lib.hid hrow
          have HB := Lib.hid hB
          clear hrow hB hcm hc
          go_wp2_with fail
          refine (HCT.out c _ hc256).mono ?_
          rintro e w' ⟨rfl, rfl⟩
          go_wp2_with fail
          go_ret
          rw [← HE.out]
          exact ⟨_, _, rfl, HR.out, HB.out⟩
    · have hlt' : ¬ (i : Int) < (L.length : Int) := by omega
      have HE := Lib.hid (bfs_end (by omega) hf.out)
      have HR := Lib.hid hrow
      have HB := Lib.hid hB
      clear hrow hB
      go_wp2_with fail
      go_ret
      rw [← HE.out]
      exact ⟨_, _, rfl, HR.out, HB.out⟩
end Go.Proofs.Ytfphpilabfpmjaa.ups
