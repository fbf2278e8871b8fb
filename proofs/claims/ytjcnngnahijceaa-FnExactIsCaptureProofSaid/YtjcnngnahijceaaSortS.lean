/- The contracts of the model's l4Sorted, l4Less, l1Same and l4At. -/
import Derived.Handy
import Derived.Test.YtjcnngnahijceaaListI
import Derived.Test.YtjcnngnahijceaaMovM
import Derived.Test.YtjcnngnahijceaaTrip
import Derived.Deep.RegionHeld3
namespace Go.Proofs.Ytjcnngnahijceaa.lists
open Go.RowKit P2 words edges ints good adjs fns sets rets apps gridr grid trip
set_option linter.unusedVariables false

theorem ins_up {L : List Nat} {x k : Nat} (hu : upN L) (h1 : ∀ j y, j < k → L[j]? = some y → y ≤ x) (h2 : ∀ y, L[k]? = some y → x < y) : upN (L.take k ++ x :: L.drop k) := by
  have ht : ∀ y ∈ L.take k, y ≤ x := fun y hy => by
    obtain ⟨j, hj⟩ := List.getElem?_of_mem hy
    rw [List.getElem?_take] at hj
    split at hj
    · rename_i hjk; exact h1 j y hjk hj
    · cases hj
  have hd : ∀ y ∈ L.drop k, x ≤ y := fun y hy => by
    obtain ⟨j, hj⟩ := List.getElem?_of_mem hy
    rw [List.getElem?_drop] at hj
    have hlt := (List.getElem?_eq_some_iff.1 hj).1
    obtain ⟨z, hz⟩ : ∃ z, L[k]? = some z := ⟨_, List.getElem?_eq_getElem (by omega)⟩
    have h3 := h2 z hz
    rcases Nat.eq_zero_or_pos j with rfl | hj0
    · rw [Nat.add_zero, hz] at hj
      have : z = y := by injection hj
      omega
    · have h4 := List.pairwise_iff_getElem.1 hu k (k + j) (by omega) hlt (by omega)
      rw [List.getElem?_eq_getElem (by omega)] at hz
      rw [List.getElem?_eq_getElem hlt] at hj
      have e1 : L[k]'(by omega) = z := by injection hz
      have e2 : L[k + j]'hlt = y := by injection hj
      rw [e1, e2] at h4
      omega
  show List.Pairwise _ _
  rw [List.pairwise_append, List.pairwise_cons]
  refine ⟨List.Pairwise.sublist (List.take_sublist _ _) hu, ⟨hd, List.Pairwise.sublist (List.drop_sublist _ _) hu⟩, fun a ha b hb => ?_⟩
  have := ht a ha
  rcases List.mem_cons.1 hb with rfl | hb
  · exact this
  · have := hd b hb; omega
theorem ins_perm {L t : List Nat} {x k i : Nat} (h : L.Perm (t.take i)) (hx : t[i]? = some x) : (L.take k ++ x :: L.drop k).Perm (t.take (i + 1)) := by
  have h1 : (L.take k ++ x :: L.drop k).Perm (x :: (L.take k ++ L.drop k)) := List.perm_middle
  rw [List.take_append_drop] at h1
  rw [List.take_add_one, hx]
  refine h1.trans ((List.Perm.cons x h).trans ?_)
  exact (List.perm_append_comm (l₁ := [x]) (l₂ := t.take i))
theorem castL_app (L M : List Nat) : castL (L ++ M) = castL L ++ castL M := by simp [castL]
theorem cells_ins (L : List Nat) (x k : Nat) : (cellsI (castL L)).take k ++ [.int .i64 (x : Int)] ++ (cellsI (castL L)).drop k = cellsI (castL (L.take k ++ x :: L.drop k)) := by
  simp [castL, cellsI, List.map_take, List.map_drop]
theorem castL_get {L : List Nat} {k : Nat} {y : Int} (h : (castL L)[k]? = some y) : ∃ z : Nat, y = (z : Int) ∧ L[k]? = some z := by
  unfold castL at h
  rw [List.getElem?_map] at h
  cases hz : L[k]? with
  | none => rw [hz] at h; cases h
  | some z => rw [hz] at h; exact ⟨z, by simpa using h.symm, rfl⟩
set_option maxHeartbeats 8000000 in
set_option maxRecDepth 100000 in
theorem l4Sorted_any (u : Value) (t : List Nat) (w : World) (hu : Ints w u (castL t)) (ht : t.length ≤ 3) : Calls Try.prog 159 #[u] w (RowI w (castL (sortN t))) := by
  obtain ⟨i0, hi, hz0, hz1, hz2⟩ := info_parts infoInt
  obtain ⟨A2, c2, rfl, hc⟩ := hu.form
  have HU := Lib.hid hu
  have HC := Lib.hid hc
  have HT := Lib.hid (castL_len t)
  have HO0 : Hid ((w.alloc (.cells #[] 3)).ownsRow w.heap.size 3 1 (.slice (some ⟨w.heap.size, 0, none⟩) 0 0) 0 []) := own_new0 w 3 1
  have HB0 : Hid (Below w.heap.size w (w.alloc (.cells #[] 3))) := (Below.refl _ _).alloc (Nat.le_refl _) _
  clear hu hc
  go_enter Try.func159, Try.ntmps159
  go_wp2_with fail
  go_loopg [3, 4] t.length (fun g ov iv wr => ∃ (i : Nat) (ow : Value) (L : List Nat), ow = ov ∧ i + g = t.length ∧ iv = .int .i64 (i : Int) ∧ Hid (upN L ∧ L.Perm (t.take i)) ∧ wr.ownsRow w.heap.size 3 1 ow L.length (cellsI (castL L)) ∧ Below w.heap.size w wr)
  case atStart => exact ⟨0, _, [], rfl, by omega, rfl, ⟨List.Pairwise.nil, by simp⟩, HO0.out, HB0.out⟩
  case round =>
    clear HO0 HB0
    obtain ⟨i, ow, L, rfl, hig, rfl, hL, hrow, hB⟩ := hrel
    obtain ⟨A4, c4, rfl⟩ := own_form hrow
    cases gk with
    | zero =>
      obtain rfl : i = t.length := by omega
      have HS : Hid (L = sortN t) := sort_is (by have := hL.out.2; rwa [List.take_length] at this) hL.out.1
      have hil : ((t.length : Nat) : Int) = ((castL t).length : Int) := by rw [HT.out]
      have HR := Lib.hid hrow
      have HB := Lib.hid hB
      have HCL := Lib.hid (castL_len L)
      clear hrow hB
      go_wp2_with fail
      go_ret
      exact ⟨A4, c4, by rw [← HS.out, HCL.out]; rfl, by rw [← HS.out, HCL.out]; exact HR.out, HB.out⟩
    | succ gg =>
      have hit : i < t.length := by omega
      have hit' : (i : Int) < ((castL t).length : Int) := by rw [HT.out]; omega
      obtain ⟨x, hx⟩ : ∃ x, t[i]? = some x := ⟨_, List.getElem?_eq_getElem hit⟩
      obtain ⟨gt, ot, rfl, f0⟩ := HC.out i _ (castL_at hx)
      have HLL : Hid (L.length = i) := by
        show _ = _
        have := hL.out.2.length_eq
        rw [List.length_take] at this; omega
      have hll : L.length ≤ 3 := by have := HLL.out; omega
      obtain ⟨wi, hwi⟩ : ∃ wi, wi = wr := ⟨_, rfl⟩
      subst hwi
      have HX := Lib.hid hx
      have HB := Lib.hid hB
      have HRO := Lib.hid hrow
      have HF := Lib.hid f0
      have HLC : Hid ((castL L).length = L.length) := castL_len L
      have hsz := hB.size
      clear hrow hB f0 hx
      go_wp2_with fail
      go_loopg [5] L.length (fun g kv wr => ∃ k : Nat, k + g = L.length ∧ kv = .int .i64 (k : Int) ∧ Hid (∀ j y, j < k → L[j]? = some y → y ≤ x) ∧ Below wi.heap.size wi wr)
      case atStart => exact ⟨0, by omega, rfl, fun j y hj => by omega, Below.refl _ _⟩
      case round =>
        obtain ⟨k, hkg, rfl, hle, hB2⟩ := hrel
        have hBW := btrans HB.out hB2
        have f0 := nearv.cell_keep HF.out hBW
        have hrow := own_below HRO.out hB2
        by_cases hgo : ∃ y, L[k]? = some y ∧ y ≤ x
        · obtain ⟨y, hy, hyx⟩ := hgo
          have hlt := (List.getElem?_eq_some_iff.1 hy).1
          have hlt' : (k : Int) < (L.length : Int) := by omega
          obtain ⟨g, rfl, q0, -⟩ := own_at hrow (show (cellsI (castL L))[k]? = some (.int .i64 (y : Int)) from by simp [cellsI, castL, hy])
          have d0 : decide ((y : Int) ≤ (x : Int)) = true := decide_eq_true (by omega)
          have d1 : decide (y ≤ x) = true := decide_eq_true hyx
          have hyx2 : y ≤ x := hyx
          have HK : Hid (∀ j z, j < k + 1 → L[j]? = some z → z ≤ x) := fun j z hj hz => by
            by_cases e : j = k
            · subst e; rw [hy] at hz; cases hz; exact hyx
            · exact hle.out j z (by omega) hz
          have HB2 := Lib.hid (fun nq => below_drewN hB2 nq)
          cases gk with
          | zero => exfalso; omega
          | succ g5 =>
            clear hy hyx hB2 hBW hrow
            go_wp2_with fail
            go_quiet (fail)
            go_wp2_with fail
            go_roundg g5
            case measure => omega
            case rel => exact ⟨k + 1, by omega, by go_num, HK, HB2.out _⟩
        · have HINS : Hid (upN (L.take k ++ x :: L.drop k) ∧ (L.take k ++ x :: L.drop k).Perm (t.take (i + 1))) :=
            ⟨ins_up hL.out.1 hle.out (fun y hy => Nat.lt_of_not_le fun h => hgo ⟨y, hy, h⟩), ins_perm hL.out.2 HX.out⟩
          have HNO : Hid (∀ y, L[k]? = some y → ¬ y ≤ x) := fun y hy h => hgo ⟨y, hy, h⟩
          clear hgo
          by_cases hlt : k < L.length
          · have hlt' : (k : Int) < (L.length : Int) := by omega
            obtain ⟨y, hy⟩ : ∃ y, L[k]? = some y := ⟨_, List.getElem?_eq_getElem hlt⟩
            obtain ⟨g, rfl, q0, -⟩ := own_at hrow (show (cellsI (castL L))[k]? = some (.int .i64 (y : Int)) from by simp [cellsI, castL, hy])
            have d0 : decide ((y : Int) ≤ (x : Int)) = false := decide_eq_false (by have := HNO.out y hy; omega)
            have d1 : decide (y ≤ x) = false := decide_eq_false (HNO.out y hy)
            have d2 : ¬ y ≤ x := HNO.out y hy
            have HB2 := Lib.hid (fun nq => below_drewN hB2 nq)
            clear hy hB2 hBW hrow
            go_wp2_with fail
            go_quiet (fail)
            go_wp2_with fail
            have HB7 := Lib.hid (HB2.out nq)
            have f7 : (wr.drewN nq).cell? ⟨gt, ot + i, none⟩ = some (.int .i64 (x : Int)) := f0
            clear HB2 f0 q0
            generalize wr.drewN nq = w7 at *
            have hrow7 := own_below HRO.out HB7.out
            have HRD : Hid (Reads w7 1 (.slice (some ⟨g, 0, none⟩) L.length c4) L.length (cellsI (castL L))) := Reads.of_own hrow7
            have HXL : Hid ((cellsI (castL L)).length = L.length) := by show _ = _; rw [cellsI_len, castL_len, Nat.mul_one]
            have hkl : k ≤ L.length := by omega
            have hkc : k ≤ c4 := reads_cap HRD.out hkl
            have H1 := Lib.hid (oneI (castL L))
            have HX1 : Hid ((Value.int .i64 (x : Int)).oneCell' = true) := rfl
            have HSK := Lib.hid (fun (W : World) (hb : Below w7.heap.size w7 W) => nearv.cell_keep f7 hb)
            have hsz7 := HB7.out.size
            clear hrow7
            have B5 := Below.refl w7.heap.size w7
            have RT := Lib.hid (fun (W_ : World) (hb : Below w7.heap.size w7 W_) => by have h_ := apps.Reads.take (c' := c4) (HRD.out.below hb) hkl hkc; rw [Nat.mul_one] at h_; exact h_)
            have RD := Lib.hid (fun (W_ : World) (hb : Below w7.heap.size w7 W_) => by have h_ := apps.Reads.drop (HRD.out.below hb) hkl; rw [Nat.mul_one] at h_; exact h_)
            have hXSl_ : ((cellsI (castL L))).length = L.length := HXL.out
            have LT : Hid ((((cellsI (castL L))).take k).length = k * 1) := by show _ = _; rw [List.length_take, hXSl_]; omega
            have LD : Hid ((((cellsI (castL L))).drop k).length = (L.length - k) * 1) := by show _ = _; rw [List.length_drop, hXSl_]; omega
            have N1 := Lib.hid (fun x (hx : x ∈ ((cellsI (castL L))).take k) => H1.out x (List.mem_of_mem_take hx))
            have N3 := Lib.hid (fun x (hx : x ∈ ((cellsI (castL L))).drop k) => H1.out x (List.mem_of_mem_drop hx))
            have N2 : Hid (∀ x_ ∈ ([.int .i64 (x : Int)] : List Value), x_.oneCell' = true) := fun x_ hx_ => by rw [List.mem_singleton.1 hx_]; exact HX1.out
            have F1 := Lib.hid (show ((w7.alloc (.cells #[] 3)).drew).ownsRow w7.heap.size 3 1 (.slice (some ⟨w7.heap.size, 0, none⟩) 0 0) 0 [] from own_new0 w7.drew 3 1)
            have F2 := Lib.hid (show (((w7.alloc (.cells #[] 3)).alloc (.cells #[.int .i64 (x : Int)] 3)).drew).ownsRow w7.heap.size 3 1 (.slice (some ⟨w7.heap.size, 0, none⟩) 0 0) 0 [] from (own_new0 w7.drew 3 1).alloc _)
            have F3 := Lib.hid (show (((w7.alloc (.cells #[.int .i64 (x : Int)] 3)).alloc (.cells #[] 3)).drew).ownsRow w7.heap.size 3 1 (.slice (some ⟨w7.heap.size + 1, 0, none⟩) 0 0) 0 [] from by
              have t := own_new0 (w7.alloc (.cells #[.int .i64 (x : Int)] 3)) 3 1
              rw [World.size_alloc] at t
              exact own_base t (by omega))
            have B0 := Lib.hid (show Below w7.heap.size w7 w7.drew from B5.drew)
            have B1 := Lib.hid (show Below w7.heap.size w7 ((w7.alloc (.cells #[] 3)).drew) from (B5.alloc (Nat.le_refl _) _).drew)
            have B4 := Lib.hid (show Below w7.heap.size w7 ((w7.alloc (.cells #[.int .i64 (x : Int)] 3)).drew) from (B5.alloc (Nat.le_refl _) _).drew)
            have B2 := Lib.hid (show Below w7.heap.size w7 (((w7.alloc (.cells #[] 3)).alloc (.cells #[.int .i64 (x : Int)] 3)).drew) from ((B5.alloc (Nat.le_refl _) _).alloc (by simp) _).drew)
            have B3 := Lib.hid (show Below w7.heap.size w7 (((w7.alloc (.cells #[.int .i64 (x : Int)] 3)).alloc (.cells #[] 3)).drew) from ((B5.alloc (Nat.le_refl _) _).alloc (by simp) _).drew)
            have Y2 := Lib.hid (show Blk (((w7.alloc (.cells #[] 3)).alloc (.cells #[.int .i64 (x : Int)] 3)).drew) (w7.heap.size + 1) 3 #[.int .i64 (x : Int)] from by
              have t := (Blk.new (w7.alloc (.cells #[] 3)) 3 #[.int .i64 (x : Int)]).drewN 1
              rw [World.size_alloc] at t; exact t)
            have Y3 := Lib.hid (show Blk (((w7.alloc (.cells #[.int .i64 (x : Int)] 3)).alloc (.cells #[] 3)).drew) w7.heap.size 3 #[.int .i64 (x : Int)] from ((Blk.new w7 3 #[.int .i64 (x : Int)]).alloc (.cells #[] 3)).drewN 1)
            clear B5 hXSl_
            go_region_held3 (fun w' => w'.cell? ⟨gt, ot + i, none⟩ = some (.int .i64 (x : Int))) (first | go_keep | (refine HSK.out _ ?_; (first | with_reducible exact B0.out | with_reducible exact B1.out | with_reducible exact B2.out | with_reducible exact B3.out | with_reducible exact B4.out | with_reducible exact e3 | with_reducible exact e2 | with_reducible exact e1.alloc s1 _ | with_reducible exact e1))) (first
              | ((first
                    | (refine step_append_any _ rfl (.tmp 30) (.tmp 33) 32 rfl w7.heap.size 3 i0 (.int .i64 0) 1 8 Try.underlying32 hi hz0 hz1 hz2 rfl (by decide) (.slice (some ⟨w7.heap.size, 0, none⟩) 0 0) 0 [] rfl ?_ (.slice (some ⟨g, 0, none⟩) k c4) k (((cellsI (castL L))).take k) rfl ?_ LT.out N1.out (by unfold maxLen; omega) (by omega) (by simp <;> omega) ?_)
                    | (refine step_append_any _ rfl (.tmp 30) (.tmp 33) 32 rfl w7.heap.size 3 i0 (.int .i64 0) 1 8 Try.underlying32 hi hz0 hz1 hz2 rfl (by decide) (.slice (some ⟨w7.heap.size + 1, 0, none⟩) 0 0) 0 [] rfl ?_ (.slice (some ⟨g, 0, none⟩) k c4) k (((cellsI (castL L))).take k) rfl ?_ LT.out N1.out (by unfold maxLen; omega) (by omega) (by simp <;> omega) ?_)
                    | (refine step_append_any _ rfl (.tmp 30) (.tmp 33) 32 rfl w7.heap.size 3 i0 (.int .i64 0) 1 8 Try.underlying32 hi hz0 hz1 hz2 rfl (by decide) (.slice (some ⟨w7.heap.size, 0, none⟩) 0 0) 0 [] rfl ?_ (.slice (some ⟨g, 0, none⟩) k c4) k (((cellsI (castL L))).take k) rfl ?_ LT.out N1.out (by unfold maxLen; omega) (by omega) (by simp <;> omega) ?_)
                    | (refine step_append_any _ rfl (.tmp 30) (.tmp 33) 32 rfl w7.heap.size 3 i0 (.int .i64 0) 1 8 Try.underlying32 hi hz0 hz1 hz2 rfl (by decide) (.slice (some ⟨w7.heap.size + 1, 0, none⟩) 0 0) 0 [] rfl ?_ (.slice (some ⟨g, 0, none⟩) k c4) k (((cellsI (castL L))).take k) rfl ?_ LT.out N1.out (by unfold maxLen; omega) (by omega) (by simp <;> omega) ?_))
                 (first | with_reducible exact F1.out | with_reducible exact F2.out | with_reducible exact F3.out)
                 refine RT.out _ ?_
                 (first | with_reducible exact B1.out | with_reducible exact B2.out | with_reducible exact B3.out)
                 intro v1 w1 o1 g1
                 rw [Nat.zero_add, List.nil_append] at o1
                 (first
                   | (have e1 := B1.out.grown g1 (by simp) (fun k hk => by simp [Value.ownBlock] at hk; omega))
                   | (have e1 := B2.out.grown g1 (by simp; omega) (fun k hk => by simp [Value.ownBlock] at hk; omega); have y1 := Y2.out.grown g1 (by simp [Value.ownBlock]))
                   | (have e1 := B3.out.grown g1 (by simp; omega) (fun k hk => by simp [Value.ownBlock] at hk; omega); have y1 := Y3.out.grown g1 (by simp [Value.ownBlock])))
                 have s1 := e1.size)
              | ((first
                    | (refine step_append_any _ rfl (.tmp 34) (.tmp 39) 32 rfl w7.heap.size 3 i0 (.int .i64 0) 1 8 Try.underlying32 hi hz0 hz1 hz2 rfl (by decide) v1 k (((cellsI (castL L))).take k) rfl ?_ (.slice (some ⟨w1.heap.size, 0, none⟩) 1 1) 1 [.int .i64 (x : Int)] rfl ?_ rfl N2.out (by unfold maxLen; omega) (by omega) ?_ ?_)
                    | (refine step_append_any _ rfl (.tmp 34) (.tmp 39) 32 rfl w7.heap.size 3 i0 (.int .i64 0) 1 8 Try.underlying32 hi hz0 hz1 hz2 rfl (by decide) v1 k (((cellsI (castL L))).take k) rfl ?_ (.slice (some ⟨w7.heap.size + 1, 0, none⟩) 1 1) 1 [.int .i64 (x : Int)] rfl ?_ rfl N2.out (by unfold maxLen; omega) (by omega) ?_ ?_)
                    | (refine step_append_any _ rfl (.tmp 34) (.tmp 39) 32 rfl w7.heap.size 3 i0 (.int .i64 0) 1 8 Try.underlying32 hi hz0 hz1 hz2 rfl (by decide) v1 k (((cellsI (castL L))).take k) rfl ?_ (.slice (some ⟨w7.heap.size, 0, none⟩) 1 1) 1 [.int .i64 (x : Int)] rfl ?_ rfl N2.out (by unfold maxLen; omega) (by omega) ?_ ?_))
                 (first | with_reducible exact o1 | with_reducible exact o1.alloc _)
                 (first | with_reducible exact one_readsV y1 | with_reducible exact one_readsV (Blk.new w1 _ _))
                 (first | with_reducible exact s1 | with_reducible exact Nat.le_trans s1 (by simp))
                 intro v2 w2 o2 g2
                 (first
                   | have e2 := e1.grown g2 s1 (fun q hq => (o1.lt q hq).1)
                   | have e2 := (e1.alloc s1 _).grown g2 (Nat.le_trans s1 (by simp)) (fun q hq => (o1.lt q hq).1))
                 have s2 := e2.size)
              | ((first
                    | (refine step_append_any _ rfl (.tmp 40) (.tmp 43) 32 rfl w7.heap.size 3 i0 (.int .i64 0) 1 8 Try.underlying32 hi hz0 hz1 hz2 rfl (by decide) v2 (k + 1) (((cellsI (castL L))).take k ++ [.int .i64 (x : Int)]) rfl ?_ (.slice (if c4 = k then some ⟨g, 0, none⟩ else some ⟨g, k, none⟩) (L.length - k) (c4 - k)) (L.length - k) (((cellsI (castL L))).drop k) rfl ?_ LD.out N3.out (by unfold maxLen; omega) (by omega) s2 ?_)
                    | (refine step_append_any _ rfl (.tmp 40) (.tmp 43) 32 rfl w7.heap.size 3 i0 (.int .i64 0) 1 8 Try.underlying32 hi hz0 hz1 hz2 rfl (by decide) v2 (k + 1) (((cellsI (castL L))).take k ++ [.int .i64 (x : Int)]) rfl ?_ (.slice (if c4 = k then (some ⟨g, 0, none⟩) else Option.map (fun x => x.add k) (some ⟨g, 0, none⟩)) (L.length - k) (c4 - k)) (L.length - k) (((cellsI (castL L))).drop k) rfl ?_ LD.out N3.out (by unfold maxLen; omega) (by omega) s2 ?_))
                 with_reducible exact o2
                 (first | with_reducible exact rd1_someV (RD.out _ e2) | with_reducible exact rd1_zeroV (RD.out _ e2) | exact (by simpa using RD.out _ e2))
                 intro v3 w3 o3 g3
                 have e3 := e2.grown g3 s2 (fun q hq => (o2.lt q hq).1)))
            all_goals
              have hw3 : w3.ownsRow w7.heap.size 3 1 v3 (L.take k ++ x :: L.drop k).length (cellsI (castL (L.take k ++ x :: L.drop k))) := by
                have e1 : (L.take k ++ x :: L.drop k).length = k + 1 + (L.length - k) := by
                  rw [List.length_append, List.length_cons, List.length_take, List.length_drop, Nat.min_eq_left hkl]; omega
                rw [e1, ← cells_ins]; exact o3
              have HB9 := Lib.hid (btrans HB.out (btrans HB7.out e3))
              have HW9 := Lib.hid (own_base hw3 (show w.heap.size ≤ w7.heap.size by omega))
              clear o3 hw3
              go_wp2_with fail
              all_goals
                go_roundg gg
                case measure => omega
                case rel => exact ⟨i + 1, _, _, rfl, by omega, by go_num, HINS, HW9.out, HB9.out⟩
          · have hkz : ¬ ((k : Int) < (L.length : Int)) := by omega
            have dk : decide ((k : Int) < (L.length : Int)) = false := by simpa using hkz
            have dk' : decide (k < L.length) = false := by simpa using hlt
            have HB2 := Lib.hid (fun nq => below_drewN hB2 nq)
            clear hB2 hBW hrow
            go_wp2_with fail
            go_quiet (fail)
            go_wp2_with fail
            have HB7 := Lib.hid (HB2.out nq)
            have f7 : (wr.drewN nq).cell? ⟨gt, ot + i, none⟩ = some (.int .i64 (x : Int)) := f0
            clear HB2 f0 
            generalize wr.drewN nq = w7 at *
            have hrow7 := own_below HRO.out HB7.out
            have HRD : Hid (Reads w7 1 (.slice A4 L.length c4) L.length (cellsI (castL L))) := Reads.of_own hrow7
            have HXL : Hid ((cellsI (castL L)).length = L.length) := by show _ = _; rw [cellsI_len, castL_len, Nat.mul_one]
            have hkl : k ≤ L.length := by omega
            have hkc : k ≤ c4 := reads_cap HRD.out hkl
            have H1 := Lib.hid (oneI (castL L))
            have HX1 : Hid ((Value.int .i64 (x : Int)).oneCell' = true) := rfl
            have HSK := Lib.hid (fun (W : World) (hb : Below w7.heap.size w7 W) => nearv.cell_keep f7 hb)
            have hsz7 := HB7.out.size
            clear hrow7
            have B5 := Below.refl w7.heap.size w7
            have RT := Lib.hid (fun (W_ : World) (hb : Below w7.heap.size w7 W_) => by have h_ := apps.Reads.take (c' := c4) (HRD.out.below hb) hkl hkc; rw [Nat.mul_one] at h_; exact h_)
            have RD := Lib.hid (fun (W_ : World) (hb : Below w7.heap.size w7 W_) => by have h_ := apps.Reads.drop (HRD.out.below hb) hkl; rw [Nat.mul_one] at h_; exact h_)
            have hXSl_ : ((cellsI (castL L))).length = L.length := HXL.out
            have LT : Hid ((((cellsI (castL L))).take k).length = k * 1) := by show _ = _; rw [List.length_take, hXSl_]; omega
            have LD : Hid ((((cellsI (castL L))).drop k).length = (L.length - k) * 1) := by show _ = _; rw [List.length_drop, hXSl_]; omega
            have N1 := Lib.hid (fun x (hx : x ∈ ((cellsI (castL L))).take k) => H1.out x (List.mem_of_mem_take hx))
            have N3 := Lib.hid (fun x (hx : x ∈ ((cellsI (castL L))).drop k) => H1.out x (List.mem_of_mem_drop hx))
            have N2 : Hid (∀ x_ ∈ ([.int .i64 (x : Int)] : List Value), x_.oneCell' = true) := fun x_ hx_ => by rw [List.mem_singleton.1 hx_]; exact HX1.out
            have F1 := Lib.hid (show ((w7.alloc (.cells #[] 3)).drew).ownsRow w7.heap.size 3 1 (.slice (some ⟨w7.heap.size, 0, none⟩) 0 0) 0 [] from own_new0 w7.drew 3 1)
            have F2 := Lib.hid (show (((w7.alloc (.cells #[] 3)).alloc (.cells #[.int .i64 (x : Int)] 3)).drew).ownsRow w7.heap.size 3 1 (.slice (some ⟨w7.heap.size, 0, none⟩) 0 0) 0 [] from (own_new0 w7.drew 3 1).alloc _)
            have F3 := Lib.hid (show (((w7.alloc (.cells #[.int .i64 (x : Int)] 3)).alloc (.cells #[] 3)).drew).ownsRow w7.heap.size 3 1 (.slice (some ⟨w7.heap.size + 1, 0, none⟩) 0 0) 0 [] from by
              have t := own_new0 (w7.alloc (.cells #[.int .i64 (x : Int)] 3)) 3 1
              rw [World.size_alloc] at t
              exact own_base t (by omega))
            have B0 := Lib.hid (show Below w7.heap.size w7 w7.drew from B5.drew)
            have B1 := Lib.hid (show Below w7.heap.size w7 ((w7.alloc (.cells #[] 3)).drew) from (B5.alloc (Nat.le_refl _) _).drew)
            have B4 := Lib.hid (show Below w7.heap.size w7 ((w7.alloc (.cells #[.int .i64 (x : Int)] 3)).drew) from (B5.alloc (Nat.le_refl _) _).drew)
            have B2 := Lib.hid (show Below w7.heap.size w7 (((w7.alloc (.cells #[] 3)).alloc (.cells #[.int .i64 (x : Int)] 3)).drew) from ((B5.alloc (Nat.le_refl _) _).alloc (by simp) _).drew)
            have B3 := Lib.hid (show Below w7.heap.size w7 (((w7.alloc (.cells #[.int .i64 (x : Int)] 3)).alloc (.cells #[] 3)).drew) from ((B5.alloc (Nat.le_refl _) _).alloc (by simp) _).drew)
            have Y2 := Lib.hid (show Blk (((w7.alloc (.cells #[] 3)).alloc (.cells #[.int .i64 (x : Int)] 3)).drew) (w7.heap.size + 1) 3 #[.int .i64 (x : Int)] from by
              have t := (Blk.new (w7.alloc (.cells #[] 3)) 3 #[.int .i64 (x : Int)]).drewN 1
              rw [World.size_alloc] at t; exact t)
            have Y3 := Lib.hid (show Blk (((w7.alloc (.cells #[.int .i64 (x : Int)] 3)).alloc (.cells #[] 3)).drew) w7.heap.size 3 #[.int .i64 (x : Int)] from ((Blk.new w7 3 #[.int .i64 (x : Int)]).alloc (.cells #[] 3)).drewN 1)
            clear B5 hXSl_
            go_region_held3 (fun w' => w'.cell? ⟨gt, ot + i, none⟩ = some (.int .i64 (x : Int))) (first | go_keep | (refine HSK.out _ ?_; (first | with_reducible exact B0.out | with_reducible exact B1.out | with_reducible exact B2.out | with_reducible exact B3.out | with_reducible exact B4.out | with_reducible exact e3 | with_reducible exact e2 | with_reducible exact e1.alloc s1 _ | with_reducible exact e1))) (first
              | ((first
                    | (refine step_append_any _ rfl (.tmp 30) (.tmp 33) 32 rfl w7.heap.size 3 i0 (.int .i64 0) 1 8 Try.underlying32 hi hz0 hz1 hz2 rfl (by decide) (.slice (some ⟨w7.heap.size, 0, none⟩) 0 0) 0 [] rfl ?_ (.slice A4 k c4) k (((cellsI (castL L))).take k) rfl ?_ LT.out N1.out (by unfold maxLen; omega) (by omega) (by simp <;> omega) ?_)
                    | (refine step_append_any _ rfl (.tmp 30) (.tmp 33) 32 rfl w7.heap.size 3 i0 (.int .i64 0) 1 8 Try.underlying32 hi hz0 hz1 hz2 rfl (by decide) (.slice (some ⟨w7.heap.size + 1, 0, none⟩) 0 0) 0 [] rfl ?_ (.slice A4 k c4) k (((cellsI (castL L))).take k) rfl ?_ LT.out N1.out (by unfold maxLen; omega) (by omega) (by simp <;> omega) ?_))
                 (first | with_reducible exact F1.out | with_reducible exact F2.out | with_reducible exact F3.out)
                 refine RT.out _ ?_
                 (first | with_reducible exact B1.out | with_reducible exact B2.out | with_reducible exact B3.out)
                 intro v1 w1 o1 g1
                 rw [Nat.zero_add, List.nil_append] at o1
                 (first
                   | (have e1 := B1.out.grown g1 (by simp) (fun k hk => by simp [Value.ownBlock] at hk; omega))
                   | (have e1 := B2.out.grown g1 (by simp; omega) (fun k hk => by simp [Value.ownBlock] at hk; omega); have y1 := Y2.out.grown g1 (by simp [Value.ownBlock]))
                   | (have e1 := B3.out.grown g1 (by simp; omega) (fun k hk => by simp [Value.ownBlock] at hk; omega); have y1 := Y3.out.grown g1 (by simp [Value.ownBlock])))
                 have s1 := e1.size)
              | ((first
                    | (refine step_append_any _ rfl (.tmp 34) (.tmp 39) 32 rfl w7.heap.size 3 i0 (.int .i64 0) 1 8 Try.underlying32 hi hz0 hz1 hz2 rfl (by decide) v1 k (((cellsI (castL L))).take k) rfl ?_ (.slice (some ⟨w1.heap.size, 0, none⟩) 1 1) 1 [.int .i64 (x : Int)] rfl ?_ rfl N2.out (by unfold maxLen; omega) (by omega) ?_ ?_)
                    | (refine step_append_any _ rfl (.tmp 34) (.tmp 39) 32 rfl w7.heap.size 3 i0 (.int .i64 0) 1 8 Try.underlying32 hi hz0 hz1 hz2 rfl (by decide) v1 k (((cellsI (castL L))).take k) rfl ?_ (.slice (some ⟨w7.heap.size + 1, 0, none⟩) 1 1) 1 [.int .i64 (x : Int)] rfl ?_ rfl N2.out (by unfold maxLen; omega) (by omega) ?_ ?_)
                    | (refine step_append_any _ rfl (.tmp 34) (.tmp 39) 32 rfl w7.heap.size 3 i0 (.int .i64 0) 1 8 Try.underlying32 hi hz0 hz1 hz2 rfl (by decide) v1 k (((cellsI (castL L))).take k) rfl ?_ (.slice (some ⟨w7.heap.size, 0, none⟩) 1 1) 1 [.int .i64 (x : Int)] rfl ?_ rfl N2.out (by unfold maxLen; omega) (by omega) ?_ ?_))
                 (first | with_reducible exact o1 | with_reducible exact o1.alloc _)
                 (first | with_reducible exact one_readsV y1 | with_reducible exact one_readsV (Blk.new w1 _ _))
                 (first | with_reducible exact s1 | with_reducible exact Nat.le_trans s1 (by simp))
                 intro v2 w2 o2 g2
                 (first
                   | have e2 := e1.grown g2 s1 (fun q hq => (o1.lt q hq).1)
                   | have e2 := (e1.alloc s1 _).grown g2 (Nat.le_trans s1 (by simp)) (fun q hq => (o1.lt q hq).1))
                 have s2 := e2.size)
              | ((first
                    | (refine step_append_any _ rfl (.tmp 40) (.tmp 43) 32 rfl w7.heap.size 3 i0 (.int .i64 0) 1 8 Try.underlying32 hi hz0 hz1 hz2 rfl (by decide) v2 (k + 1) (((cellsI (castL L))).take k ++ [.int .i64 (x : Int)]) rfl ?_ (.slice (if c4 = k then A4 else Option.map (fun x => x.add k) A4) (L.length - k) (c4 - k)) (L.length - k) (((cellsI (castL L))).drop k) rfl ?_ LD.out N3.out (by unfold maxLen; omega) (by omega) s2 ?_))
                 with_reducible exact o2
                 (first | with_reducible exact rd1_someV (RD.out _ e2) | with_reducible exact rd1_zeroV (RD.out _ e2) | exact (by simpa using RD.out _ e2))
                 intro v3 w3 o3 g3
                 have e3 := e2.grown g3 s2 (fun q hq => (o2.lt q hq).1)))
            all_goals
              have hw3 : w3.ownsRow w7.heap.size 3 1 v3 (L.take k ++ x :: L.drop k).length (cellsI (castL (L.take k ++ x :: L.drop k))) := by
                have e1 : (L.take k ++ x :: L.drop k).length = k + 1 + (L.length - k) := by
                  rw [List.length_append, List.length_cons, List.length_take, List.length_drop, Nat.min_eq_left hkl]; omega
                rw [e1, ← cells_ins]; exact o3
              have HB9 := Lib.hid (btrans HB.out (btrans HB7.out e3))
              have HW9 := Lib.hid (own_base hw3 (show w.heap.size ≤ w7.heap.size by omega))
              clear o3 hw3
              go_wp2_with fail
              all_goals
                go_roundg gg
                case measure => omega
                case rel => exact ⟨i + 1, _, _, rfl, by omega, by go_num, HINS, HW9.out, HB9.out⟩
end Go.Proofs.Ytjcnngnahijceaa.lists
