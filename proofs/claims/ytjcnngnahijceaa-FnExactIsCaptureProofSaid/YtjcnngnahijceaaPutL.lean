/- The contract of the model's l4Put. -/
import Derived.Handy
import Derived.Test.YtjcnngnahijceaaLessL
import Derived.Test.YtjcnngnahijceaaTrip
import Derived.Deep.RegionHeld3
import Derived.StillTailTactics
namespace Go.Proofs.Ytjcnngnahijceaa.lists
open Go.RowKit P2 words edges ints good adjs fns sets rets apps gridr grid trip
set_option linter.unusedVariables false

theorem ins_get {α : Type} {L : List α} {x : α} {k : Nat} (hk : k ≤ L.length) (i : Nat) : (L.take k ++ x :: L.drop k)[i]? = if i < k then L[i]? else if i = k then some x else L[i - 1]? := by
  have ht : (L.take k).length = k := by rw [List.length_take]; omega
  by_cases h : i < k
  · rw [if_pos h, List.getElem?_append_left (by omega), List.getElem?_take_of_lt h]
  · rw [if_neg h, List.getElem?_append_right (by omega), ht]
    by_cases e : i = k
    · subst e; simp
    · rw [if_neg e]
      obtain ⟨m, hm⟩ : ∃ m, i - k = m + 1 := ⟨i - k - 1, by omega⟩
      rw [hm, List.getElem?_cons_succ, List.getElem?_drop]
      congr 1; omega
theorem OwnG.ins {w w3 : World} {B k : Nat} {v v3 xv : Value} {us : List Value} {rows : List (List Int)} {r : List Int} (h : OwnG w B v us rows) (hk : k ≤ rows.length) (hb : Below w.heap.size w w3)
    (hx : w.ownsRow B 3 1 xv r.length (cellsI r)) (hf : ∀ (i : Nat) u b, us[i]? = some u → u.ownBlock = some b → xv.ownBlock ≠ some b)
    (h3 : w3.ownsRow B 32 1 v3 (rows.take k ++ r :: rows.drop k).length (us.take k ++ xv :: us.drop k)) : OwnG w3 B v3 (us.take k ++ xv :: us.drop k) (rows.take k ++ r :: rows.drop k) := by
  have hl := h.len
  have h5 := h.below hb
  refine ⟨h3, fun i u q hu hq => ?_, fun i j u u' b hij hu hu' hub => ?_⟩
  · rw [ins_get (by omega)] at hu
    rw [ins_get hk] at hq
    by_cases h1 : i < k
    · rw [if_pos h1] at hu hq; exact h5.2.1 i u q hu hq
    · rw [if_neg h1] at hu hq
      by_cases h2 : i = k
      · rw [if_pos h2] at hu hq
        cases hu; cases hq
        exact own_below hx hb
      · rw [if_neg h2] at hu hq; exact h5.2.1 _ u q hu hq
  · rw [ins_get (by omega)] at hu hu'
    by_cases h1 : i < k
    · rw [if_pos h1] at hu
      by_cases h2 : j < k
      · rw [if_pos h2] at hu'; exact h.2.2 i j u u' b hij hu hu' hub
      · rw [if_neg h2] at hu'
        by_cases h4 : j = k
        · rw [if_pos h4] at hu'; cases hu'; exact hf i u b hu hub
        · rw [if_neg h4] at hu'; exact h.2.2 i (j - 1) u u' b (by omega) hu hu' hub
    · rw [if_neg h1] at hu
      rw [if_neg (by omega), if_neg (by omega)] at hu'
      by_cases h4 : i = k
      · rw [if_pos h4] at hu; cases hu
        exact fun e => hf (j - 1) u' b hu' e hub
      · rw [if_neg h4] at hu; exact h.2.2 (i - 1) (j - 1) u u' b (by omega) hu hu' hub
theorem OwnG.ones {w : World} {B : Nat} {v : Value} {us : List Value} {rows : List (List Int)} (h : OwnG w B v us rows) : ∀ u ∈ us, u.oneCell' = true := fun u hu => by
  obtain ⟨i, hi⟩ := List.getElem?_of_mem hu
  obtain ⟨r, hr⟩ : ∃ r, rows[i]? = some r := ⟨_, List.getElem?_eq_getElem (by have := (List.getElem?_eq_some_iff.1 hi).1; have := h.len; omega)⟩
  obtain ⟨A, c, rfl⟩ := own_form (h.2.1 i u r hi hr)
  rfl
theorem rowsN_ins (Ls : List (List Nat)) (x : List Nat) (k : Nat) : rowsN (Ls.take k ++ x :: Ls.drop k) = (rowsN Ls).take k ++ castL x :: (rowsN Ls).drop k := by
  simp [rowsN, List.map_take, List.map_drop]
theorem rows_short {Ls : List (List Nat)} {k m : Nat} (h : ∀ L ∈ Ls, L.length = m) {y : List Nat} (hy : Ls[k]? = some y) : y.length = m := h y (List.mem_of_getElem? hy)
set_option maxHeartbeats 8000000 in
set_option maxRecDepth 100000 in
theorem l4Put_own (v xv : Value) (us : List Value) (Ls : List (List Nat)) (x : List Nat) (B : Nat) (w : World) (h : OwnG w B v us (rowsN Ls)) (hx : w.ownsRow B 3 1 xv (castL x).length (cellsI (castL x)))
    (hf : ∀ (i : Nat) u b, us[i]? = some u → u.ownBlock = some b → xv.ownBlock ≠ some b) (hB : B ≤ w.heap.size) (hlex : Lex Ls) (hlen : ∀ L ∈ Ls, L.length = x.length) (hx3 : x.length ≤ 3) (hL : Ls.length ≤ 1000) :
    Calls Try.prog 158 #[v, xv] w fun e w' => ∃ M A c us', e = .returned (.slice A (rowsN M).length c) ∧ PutL Ls x M ∧ OwnG w' B (.slice A (rowsN M).length c) us' (rowsN M) ∧ Below w.heap.size w w' := by
  obtain ⟨i1, hi1, hy0, hy1, hy2⟩ := info_parts infoRow
  obtain ⟨A, c, rfl⟩ := own_form h.1
  obtain ⟨Ax, cx, rfl⟩ := own_form hx
  have HRL := Lib.hid (rowsN_len Ls)
  have HG := Lib.hid h
  have HX := Lib.hid hx
  have HXI : Hid (Ints w (.slice Ax (castL x).length cx) (castL x)) := Reads.of_own hx
  have HF := Lib.hid hf
  have HLEX := Lib.hid hlex
  have HLEN := Lib.hid hlen
  have HUL := Lib.hid h.len
  have hrl : (rowsN Ls).length ≤ 1000 := by rw [rowsN_len]; exact hL
  have hx9 : (castL x).length ≤ 3 := by rw [castL_len]; exact hx3
  clear h hx hf hlex hlen
  go_enter Try.func158, Try.ntmps158
  go_wp2_with fail
  go_loopg [5] (rowsN Ls).length (fun g kv wr => ∃ k : Nat, k + g = (rowsN Ls).length ∧ kv = .int .i64 (k : Int) ∧ Hid (∀ j y, j < k → Ls[j]? = some y → lexN y x) ∧ Below w.heap.size w wr)
  case atStart => exact ⟨0, by omega, rfl, fun j y hj => by omega, Below.refl _ _⟩
  case round =>
    obtain ⟨k, hkg, rfl, hle, hBW⟩ := hrel
    cases gk with
    | succ gg =>
      have hlt : (k : Int) < ((rowsN Ls).length : Int) := by omega
      obtain ⟨y, hy⟩ : ∃ y, Ls[k]? = some y := ⟨_, List.getElem?_eq_getElem (by have := HRL.out; omega)⟩
      obtain ⟨u, g, o, hu, hAx, c0, hru⟩ := (gridl.readsG_of_own (HG.out.below hBW)).row (rowsN_at hy)
      subst hAx
      obtain ⟨Ar, cr, rfl, -⟩ := hru.form
      have hyl := rows_short HLEN.out hy
      have HLS := Lib.hid (l4Less_any _ _ y x wr hru (HXI.out.below hBW) hyl (by omega))
      have HSS := Lib.hid (fun (W : World) (hb : Below wr.heap.size wr W) => l1Same_any _ _ y x W (hru.below hb) ((HXI.out.below hBW).below hb) hyl (by omega))
      have HBW := Lib.hid hBW
      have HY := Lib.hid hy
      clear hyl hru hu hBW hy
      by_cases hlx : lexN y x
      · rw [lexB_iff.2 hlx] at HLS
        have HK : Hid (∀ j z, j < k + 1 → Ls[j]? = some z → lexN z x) := fun j z hj hz => by
          by_cases e : j = k
          · subst e; rw [HY.out] at hz; cases hz; exact hlx
          · exact hle.out j z (by omega) hz
        clear hlx
        go_wp2_with fail
        refine HLS.out.mono ?_
        rintro e w5 ⟨rfl, b5⟩
        have HB5 := Lib.hid (btrans HBW.out b5)
        clear b5 c0
        go_wp2_with fail
        go_roundg gg
        case measure => omega
        case rel => exact ⟨k + 1, by omega, by go_num, HK, HB5.out⟩
      · have hlf : lexB y x = false := by
          cases hb : lexB y x with
          | false => rfl
          | true => exact absurd (lexB_iff.1 hb) hlx
        rw [hlf] at HLS
        by_cases hsm : y = x
        · have HP : Hid (PutL Ls x Ls) := PutL.same HLEX.out (hsm ▸ List.mem_of_getElem? HY.out)
          rw [decide_eq_true hsm] at HSS
          clear hlx hlf hsm
          go_wp2_with fail
          refine HLS.out.mono ?_
          rintro e w5 ⟨rfl, b5⟩
          have c5 := nearv.cell_keep c0 b5
          have HSS5 := Lib.hid (HSS.out w5 b5)
          have HB5 := Lib.hid (btrans HBW.out b5)
          clear b5 c0
          go_wp2_with fail
          refine HSS5.out.mono ?_
          rintro e w6 ⟨rfl, b6⟩
          have HB6 := Lib.hid (btrans HB5.out b6)
          clear b6
          go_wp2_with fail
          go_ret
          exact ⟨Ls, _, _, us, rfl, HP.out, HG.out.below HB6.out, HB6.out⟩
        · have HP : Hid (PutL Ls x (Ls.take k ++ x :: Ls.drop k)) := PutL.new (by have := HRL.out; omega) HLEX.out hle.out (fun z hz => by
            have e : z = y := by
              have := HY.out
              rw [hz] at this; injection this
            subst e
            exact lex_tri (rows_short HLEN.out hz) hsm hlx)
          rw [decide_eq_false hsm] at HSS
          clear hlx hlf hsm
          go_wp2_with fail
          refine HLS.out.mono ?_
          rintro e w5 ⟨rfl, b5⟩
          have c5 := nearv.cell_keep c0 b5
          have HSS5 := Lib.hid (HSS.out w5 b5)
          have HB5 := Lib.hid (btrans HBW.out b5)
          clear b5 c0
          go_wp2_with fail
          refine HSS5.out.mono ?_
          rintro e w6 ⟨rfl, b6⟩
          have HBT := Lib.hid (btrans HB5.out b6)
          clear b6 c5
          go_wp2_with fail
          have hrd := Reads.of_own (HG.out.below HBT.out).1
          have HRD : Hid (Reads w6 1 (.slice (some ⟨g, o, none⟩) (rowsN Ls).length c) (rowsN Ls).length us) := hrd
          have HXL : Hid (us.length = (rowsN Ls).length) := HUL.out
          have hkl : k ≤ (rowsN Ls).length := by omega
          have hkc : k ≤ c := reads_cap hrd hkl
          have H1 := Lib.hid (OwnG.ones HG.out)
          have HX1 : Hid ((Value.slice Ax (castL x).length cx).oneCell' = true) := rfl
          clear hrd
          have B5 := Below.refl w6.heap.size w6
          have RT := Lib.hid (fun (W_ : World) (hb : Below w6.heap.size w6 W_) => by have h_ := apps.Reads.take (c' := c) (HRD.out.below hb) hkl hkc; rw [Nat.mul_one] at h_; exact h_)
          have RD := Lib.hid (fun (W_ : World) (hb : Below w6.heap.size w6 W_) => by have h_ := apps.Reads.drop (HRD.out.below hb) hkl; rw [Nat.mul_one] at h_; exact h_)
          have hXSl_ : (us).length = (rowsN Ls).length := HXL.out
          have LT : Hid (((us).take k).length = k * 1) := by show _ = _; rw [List.length_take, hXSl_]; omega
          have LD : Hid (((us).drop k).length = ((rowsN Ls).length - k) * 1) := by show _ = _; rw [List.length_drop, hXSl_]; omega
          have N1 := Lib.hid (fun x (hx : x ∈ (us).take k) => H1.out x (List.mem_of_mem_take hx))
          have N3 := Lib.hid (fun x (hx : x ∈ (us).drop k) => H1.out x (List.mem_of_mem_drop hx))
          have N2 : Hid (∀ x_ ∈ ([.slice Ax (castL x).length cx] : List Value), x_.oneCell' = true) := fun x_ hx_ => by rw [List.mem_singleton.1 hx_]; exact HX1.out
          have F1 := Lib.hid (show ((w6.alloc (.cells #[] 32)).drew).ownsRow w6.heap.size 32 1 (.slice (some ⟨w6.heap.size, 0, none⟩) 0 0) 0 [] from own_new0 w6.drew 32 1)
          have F2 := Lib.hid (show (((w6.alloc (.cells #[] 32)).alloc (.cells #[.slice Ax (castL x).length cx] 32)).drew).ownsRow w6.heap.size 32 1 (.slice (some ⟨w6.heap.size, 0, none⟩) 0 0) 0 [] from (own_new0 w6.drew 32 1).alloc _)
          have F3 := Lib.hid (show (((w6.alloc (.cells #[.slice Ax (castL x).length cx] 32)).alloc (.cells #[] 32)).drew).ownsRow w6.heap.size 32 1 (.slice (some ⟨w6.heap.size + 1, 0, none⟩) 0 0) 0 [] from by
            have t := own_new0 (w6.alloc (.cells #[.slice Ax (castL x).length cx] 32)) 32 1
            rw [World.size_alloc] at t
            exact own_base t (by omega))
          have B0 := Lib.hid (show Below w6.heap.size w6 w6.drew from B5.drew)
          have B1 := Lib.hid (show Below w6.heap.size w6 ((w6.alloc (.cells #[] 32)).drew) from (B5.alloc (Nat.le_refl _) _).drew)
          have B4 := Lib.hid (show Below w6.heap.size w6 ((w6.alloc (.cells #[.slice Ax (castL x).length cx] 32)).drew) from (B5.alloc (Nat.le_refl _) _).drew)
          have B2 := Lib.hid (show Below w6.heap.size w6 (((w6.alloc (.cells #[] 32)).alloc (.cells #[.slice Ax (castL x).length cx] 32)).drew) from ((B5.alloc (Nat.le_refl _) _).alloc (by simp) _).drew)
          have B3 := Lib.hid (show Below w6.heap.size w6 (((w6.alloc (.cells #[.slice Ax (castL x).length cx] 32)).alloc (.cells #[] 32)).drew) from ((B5.alloc (Nat.le_refl _) _).alloc (by simp) _).drew)
          have Y2 := Lib.hid (show Blk (((w6.alloc (.cells #[] 32)).alloc (.cells #[.slice Ax (castL x).length cx] 32)).drew) (w6.heap.size + 1) 32 #[.slice Ax (castL x).length cx] from by
            have t := (Blk.new (w6.alloc (.cells #[] 32)) 32 #[.slice Ax (castL x).length cx]).drewN 1
            rw [World.size_alloc] at t; exact t)
          have Y3 := Lib.hid (show Blk (((w6.alloc (.cells #[.slice Ax (castL x).length cx] 32)).alloc (.cells #[] 32)).drew) w6.heap.size 32 #[.slice Ax (castL x).length cx] from ((Blk.new w6 32 #[.slice Ax (castL x).length cx]).alloc (.cells #[] 32)).drewN 1)
          clear B5 hXSl_
          go_region_law (first
            | ((first
                  | (refine step_append_any _ rfl (.tmp 33) (.tmp 36) 42 rfl w6.heap.size 32 i1 (.slice none 0 0) 1 24 Try.underlying42 hi1 hy0 hy1 hy2 rfl (by decide) (.slice (some ⟨w6.heap.size, 0, none⟩) 0 0) 0 [] rfl ?_ (.slice (some ⟨g, o, none⟩) k c) k ((us).take k) rfl ?_ LT.out N1.out (by unfold maxLen; omega) (by omega) (by simp <;> omega) ?_)
                  | (refine step_append_any _ rfl (.tmp 33) (.tmp 36) 42 rfl w6.heap.size 32 i1 (.slice none 0 0) 1 24 Try.underlying42 hi1 hy0 hy1 hy2 rfl (by decide) (.slice (some ⟨w6.heap.size + 1, 0, none⟩) 0 0) 0 [] rfl ?_ (.slice (some ⟨g, o, none⟩) k c) k ((us).take k) rfl ?_ LT.out N1.out (by unfold maxLen; omega) (by omega) (by simp <;> omega) ?_)
                  | (refine step_append_any _ rfl (.tmp 33) (.tmp 36) 42 rfl w6.heap.size 32 i1 (.slice none 0 0) 1 24 Try.underlying42 hi1 hy0 hy1 hy2 rfl (by decide) (.slice (some ⟨w6.heap.size, 0, none⟩) 0 0) 0 [] rfl ?_ (.slice (some ⟨g, o, none⟩) k c) k ((us).take k) rfl ?_ LT.out N1.out (by unfold maxLen; omega) (by omega) (by simp <;> omega) ?_)
                  | (refine step_append_any _ rfl (.tmp 33) (.tmp 36) 42 rfl w6.heap.size 32 i1 (.slice none 0 0) 1 24 Try.underlying42 hi1 hy0 hy1 hy2 rfl (by decide) (.slice (some ⟨w6.heap.size + 1, 0, none⟩) 0 0) 0 [] rfl ?_ (.slice (some ⟨g, o, none⟩) k c) k ((us).take k) rfl ?_ LT.out N1.out (by unfold maxLen; omega) (by omega) (by simp <;> omega) ?_))
               (first | with_reducible exact F1.out | with_reducible exact F2.out | with_reducible exact F3.out)
               refine RT.out _ ?_
               (first | with_reducible exact B1.out | with_reducible exact B2.out | with_reducible exact B3.out)
               intro v1 w1 o1 g1
               rw [Nat.zero_add, List.nil_append] at o1
               (first
                 | (have e1 := B1.out.grown g1 (by simp) (fun k hk => by simp [Value.ownBlock] at hk; omega))
                 | (have e1 := B2.out.grown g1 (by simp; omega) (fun k hk => by simp [Value.ownBlock] at hk; omega); have y1 := Y2.out.grown g1 (by simp [Value.ownBlock]))
                 | (have e1 := B3.out.grown g1 (by simp; omega) (fun k hk => by simp [Value.ownBlock] at hk; omega); have y1 := Y3.out.grown g1 (by simp [Value.ownBlock])))
               have s1 := e1.size)
            | ((first
                  | (refine step_append_any _ rfl (.tmp 37) (.tmp 39) 42 rfl w6.heap.size 32 i1 (.slice none 0 0) 1 24 Try.underlying42 hi1 hy0 hy1 hy2 rfl (by decide) v1 k ((us).take k) rfl ?_ (.slice (some ⟨w1.heap.size, 0, none⟩) 1 1) 1 [.slice Ax (castL x).length cx] rfl ?_ rfl N2.out (by unfold maxLen; omega) (by omega) ?_ ?_)
                  | (refine step_append_any _ rfl (.tmp 37) (.tmp 39) 42 rfl w6.heap.size 32 i1 (.slice none 0 0) 1 24 Try.underlying42 hi1 hy0 hy1 hy2 rfl (by decide) v1 k ((us).take k) rfl ?_ (.slice (some ⟨w6.heap.size + 1, 0, none⟩) 1 1) 1 [.slice Ax (castL x).length cx] rfl ?_ rfl N2.out (by unfold maxLen; omega) (by omega) ?_ ?_)
                  | (refine step_append_any _ rfl (.tmp 37) (.tmp 39) 42 rfl w6.heap.size 32 i1 (.slice none 0 0) 1 24 Try.underlying42 hi1 hy0 hy1 hy2 rfl (by decide) v1 k ((us).take k) rfl ?_ (.slice (some ⟨w6.heap.size, 0, none⟩) 1 1) 1 [.slice Ax (castL x).length cx] rfl ?_ rfl N2.out (by unfold maxLen; omega) (by omega) ?_ ?_))
               (first | with_reducible exact o1 | with_reducible exact o1.alloc _)
               (first | with_reducible exact one_readsV y1 | with_reducible exact one_readsV (Blk.new w1 _ _))
               (first | with_reducible exact s1 | with_reducible exact Nat.le_trans s1 (by simp))
               intro v2 w2 o2 g2
               (first
                 | have e2 := e1.grown g2 s1 (fun q hq => (o1.lt q hq).1)
                 | have e2 := (e1.alloc s1 _).grown g2 (Nat.le_trans s1 (by simp)) (fun q hq => (o1.lt q hq).1))
               have s2 := e2.size)
            | ((first
                  | (refine step_append_any _ rfl (.tmp 40) (.tmp 43) 42 rfl w6.heap.size 32 i1 (.slice none 0 0) 1 24 Try.underlying42 hi1 hy0 hy1 hy2 rfl (by decide) v2 (k + 1) ((us).take k ++ [.slice Ax (castL x).length cx]) rfl ?_ (.slice (if c = k then some ⟨g, o, none⟩ else some ⟨g, o + k, none⟩) ((rowsN Ls).length - k) (c - k)) ((rowsN Ls).length - k) ((us).drop k) rfl ?_ LD.out N3.out (by unfold maxLen; omega) (by omega) s2 ?_)
                  | (refine step_append_any _ rfl (.tmp 40) (.tmp 43) 42 rfl w6.heap.size 32 i1 (.slice none 0 0) 1 24 Try.underlying42 hi1 hy0 hy1 hy2 rfl (by decide) v2 (k + 1) ((us).take k ++ [.slice Ax (castL x).length cx]) rfl ?_ (.slice (if c = k then (some ⟨g, o, none⟩) else Option.map (fun x => x.add k) (some ⟨g, o, none⟩)) ((rowsN Ls).length - k) (c - k)) ((rowsN Ls).length - k) ((us).drop k) rfl ?_ LD.out N3.out (by unfold maxLen; omega) (by omega) s2 ?_))
               with_reducible exact o2
               (first | with_reducible exact rd1_someV (RD.out _ e2) | with_reducible exact rd1_zeroV (RD.out _ e2) | exact (by simpa using RD.out _ e2))
               intro v3 w3 o3 g3
               have e3 := e2.grown g3 s2 (fun q hq => (o2.lt q hq).1)))
          all_goals
            have hw3 : w3.ownsRow B 32 1 v3 ((rowsN Ls).take k ++ castL x :: (rowsN Ls).drop k).length (us.take k ++ .slice Ax (castL x).length cx :: us.drop k) := by
              have e1 : ((rowsN Ls).take k ++ castL x :: (rowsN Ls).drop k).length = k + 1 + ((rowsN Ls).length - k) := by
                rw [List.length_append, List.length_cons, List.length_take, List.length_drop, Nat.min_eq_left hkl]; omega
              have e4 : us.take k ++ .slice Ax (castL x).length cx :: us.drop k = us.take k ++ [.slice Ax (castL x).length cx] ++ us.drop k := by simp
              rw [e1, e4]; exact own_base o3 (Nat.le_trans hB HBT.out.size)
            have HG9 := Lib.hid (OwnG.ins HG.out hkl (btrans HBT.out e3) HX.out HF.out hw3)
            have HB9 := Lib.hid (btrans HBT.out e3)
            rw [← rowsN_ins] at HG9 hw3
            generalize hn : (rowsN (Ls.take k ++ x :: Ls.drop k)).length = n3 at hw3
            obtain ⟨A3, c3, rfl⟩ := own_form hw3
            clear o3 hw3
            go_wp2_with fail
            all_goals (go_ret; subst hn; (first | exact ⟨_, A3, c3, _, rfl, HP.out, HG9.out, HB9.out⟩ | exact ⟨_, A3, c3, rfl, HP.out, ⟨_, HG9.out⟩, HB9.out⟩))
    | zero =>
      have HP : Hid (PutL Ls x (Ls.take k ++ x :: Ls.drop k)) := PutL.new (by have := HRL.out; omega) HLEX.out hle.out (fun z hz => by
        have := (List.getElem?_eq_some_iff.1 hz).1
        have := HRL.out
        omega)
      have HBT := Lib.hid hBW
      have hkz : ¬ ((k : Int) < ((rowsN Ls).length : Int)) := by omega
      have dk : decide ((k : Int) < ((rowsN Ls).length : Int)) = false := by simpa using hkz
      have dk' : decide (k < (rowsN Ls).length) = false := decide_eq_false (by omega)
      clear hBW
      go_wp2_with fail
      have hrd := Reads.of_own (HG.out.below HBT.out).1
      have HRD : Hid (Reads wr 1 (.slice A (rowsN Ls).length c) (rowsN Ls).length us) := hrd
      have HXL : Hid (us.length = (rowsN Ls).length) := HUL.out
      have hkl : k ≤ (rowsN Ls).length := by omega
      have hkc : k ≤ c := reads_cap hrd hkl
      have H1 := Lib.hid (OwnG.ones HG.out)
      have HX1 : Hid ((Value.slice Ax (castL x).length cx).oneCell' = true) := rfl
      clear hrd
      have B5 := Below.refl wr.heap.size wr
      have RT := Lib.hid (fun (W_ : World) (hb : Below wr.heap.size wr W_) => by have h_ := apps.Reads.take (c' := c) (HRD.out.below hb) hkl hkc; rw [Nat.mul_one] at h_; exact h_)
      have RD := Lib.hid (fun (W_ : World) (hb : Below wr.heap.size wr W_) => by have h_ := apps.Reads.drop (HRD.out.below hb) hkl; rw [Nat.mul_one] at h_; exact h_)
      have hXSl_ : (us).length = (rowsN Ls).length := HXL.out
      have LT : Hid (((us).take k).length = k * 1) := by show _ = _; rw [List.length_take, hXSl_]; omega
      have LD : Hid (((us).drop k).length = ((rowsN Ls).length - k) * 1) := by show _ = _; rw [List.length_drop, hXSl_]; omega
      have N1 := Lib.hid (fun x (hx : x ∈ (us).take k) => H1.out x (List.mem_of_mem_take hx))
      have N3 := Lib.hid (fun x (hx : x ∈ (us).drop k) => H1.out x (List.mem_of_mem_drop hx))
      have N2 : Hid (∀ x_ ∈ ([.slice Ax (castL x).length cx] : List Value), x_.oneCell' = true) := fun x_ hx_ => by rw [List.mem_singleton.1 hx_]; exact HX1.out
      have F1 := Lib.hid (show ((wr.alloc (.cells #[] 32)).drew).ownsRow wr.heap.size 32 1 (.slice (some ⟨wr.heap.size, 0, none⟩) 0 0) 0 [] from own_new0 wr.drew 32 1)
      have F2 := Lib.hid (show (((wr.alloc (.cells #[] 32)).alloc (.cells #[.slice Ax (castL x).length cx] 32)).drew).ownsRow wr.heap.size 32 1 (.slice (some ⟨wr.heap.size, 0, none⟩) 0 0) 0 [] from (own_new0 wr.drew 32 1).alloc _)
      have F3 := Lib.hid (show (((wr.alloc (.cells #[.slice Ax (castL x).length cx] 32)).alloc (.cells #[] 32)).drew).ownsRow wr.heap.size 32 1 (.slice (some ⟨wr.heap.size + 1, 0, none⟩) 0 0) 0 [] from by
        have t := own_new0 (wr.alloc (.cells #[.slice Ax (castL x).length cx] 32)) 32 1
        rw [World.size_alloc] at t
        exact own_base t (by omega))
      have B0 := Lib.hid (show Below wr.heap.size wr wr.drew from B5.drew)
      have B1 := Lib.hid (show Below wr.heap.size wr ((wr.alloc (.cells #[] 32)).drew) from (B5.alloc (Nat.le_refl _) _).drew)
      have B4 := Lib.hid (show Below wr.heap.size wr ((wr.alloc (.cells #[.slice Ax (castL x).length cx] 32)).drew) from (B5.alloc (Nat.le_refl _) _).drew)
      have B2 := Lib.hid (show Below wr.heap.size wr (((wr.alloc (.cells #[] 32)).alloc (.cells #[.slice Ax (castL x).length cx] 32)).drew) from ((B5.alloc (Nat.le_refl _) _).alloc (by simp) _).drew)
      have B3 := Lib.hid (show Below wr.heap.size wr (((wr.alloc (.cells #[.slice Ax (castL x).length cx] 32)).alloc (.cells #[] 32)).drew) from ((B5.alloc (Nat.le_refl _) _).alloc (by simp) _).drew)
      have Y2 := Lib.hid (show Blk (((wr.alloc (.cells #[] 32)).alloc (.cells #[.slice Ax (castL x).length cx] 32)).drew) (wr.heap.size + 1) 32 #[.slice Ax (castL x).length cx] from by
        have t := (Blk.new (wr.alloc (.cells #[] 32)) 32 #[.slice Ax (castL x).length cx]).drewN 1
        rw [World.size_alloc] at t; exact t)
      have Y3 := Lib.hid (show Blk (((wr.alloc (.cells #[.slice Ax (castL x).length cx] 32)).alloc (.cells #[] 32)).drew) wr.heap.size 32 #[.slice Ax (castL x).length cx] from ((Blk.new wr 32 #[.slice Ax (castL x).length cx]).alloc (.cells #[] 32)).drewN 1)
      clear B5 hXSl_
      go_region_law (first
        | ((first
              | (refine step_append_any _ rfl (.tmp 33) (.tmp 36) 42 rfl wr.heap.size 32 i1 (.slice none 0 0) 1 24 Try.underlying42 hi1 hy0 hy1 hy2 rfl (by decide) (.slice (some ⟨wr.heap.size, 0, none⟩) 0 0) 0 [] rfl ?_ (.slice A k c) k ((us).take k) rfl ?_ LT.out N1.out (by unfold maxLen; omega) (by omega) (by simp <;> omega) ?_)
              | (refine step_append_any _ rfl (.tmp 33) (.tmp 36) 42 rfl wr.heap.size 32 i1 (.slice none 0 0) 1 24 Try.underlying42 hi1 hy0 hy1 hy2 rfl (by decide) (.slice (some ⟨wr.heap.size + 1, 0, none⟩) 0 0) 0 [] rfl ?_ (.slice A k c) k ((us).take k) rfl ?_ LT.out N1.out (by unfold maxLen; omega) (by omega) (by simp <;> omega) ?_))
           (first | with_reducible exact F1.out | with_reducible exact F2.out | with_reducible exact F3.out)
           refine RT.out _ ?_
           (first | with_reducible exact B1.out | with_reducible exact B2.out | with_reducible exact B3.out)
           intro v1 w1 o1 g1
           rw [Nat.zero_add, List.nil_append] at o1
           (first
             | (have e1 := B1.out.grown g1 (by simp) (fun k hk => by simp [Value.ownBlock] at hk; omega))
             | (have e1 := B2.out.grown g1 (by simp; omega) (fun k hk => by simp [Value.ownBlock] at hk; omega); have y1 := Y2.out.grown g1 (by simp [Value.ownBlock]))
             | (have e1 := B3.out.grown g1 (by simp; omega) (fun k hk => by simp [Value.ownBlock] at hk; omega); have y1 := Y3.out.grown g1 (by simp [Value.ownBlock])))
           have s1 := e1.size)
        | ((first
              | (refine step_append_any _ rfl (.tmp 37) (.tmp 39) 42 rfl wr.heap.size 32 i1 (.slice none 0 0) 1 24 Try.underlying42 hi1 hy0 hy1 hy2 rfl (by decide) v1 k ((us).take k) rfl ?_ (.slice (some ⟨w1.heap.size, 0, none⟩) 1 1) 1 [.slice Ax (castL x).length cx] rfl ?_ rfl N2.out (by unfold maxLen; omega) (by omega) ?_ ?_)
              | (refine step_append_any _ rfl (.tmp 37) (.tmp 39) 42 rfl wr.heap.size 32 i1 (.slice none 0 0) 1 24 Try.underlying42 hi1 hy0 hy1 hy2 rfl (by decide) v1 k ((us).take k) rfl ?_ (.slice (some ⟨wr.heap.size + 1, 0, none⟩) 1 1) 1 [.slice Ax (castL x).length cx] rfl ?_ rfl N2.out (by unfold maxLen; omega) (by omega) ?_ ?_)
              | (refine step_append_any _ rfl (.tmp 37) (.tmp 39) 42 rfl wr.heap.size 32 i1 (.slice none 0 0) 1 24 Try.underlying42 hi1 hy0 hy1 hy2 rfl (by decide) v1 k ((us).take k) rfl ?_ (.slice (some ⟨wr.heap.size, 0, none⟩) 1 1) 1 [.slice Ax (castL x).length cx] rfl ?_ rfl N2.out (by unfold maxLen; omega) (by omega) ?_ ?_))
           (first | with_reducible exact o1 | with_reducible exact o1.alloc _)
           (first | with_reducible exact one_readsV y1 | with_reducible exact one_readsV (Blk.new w1 _ _))
           (first | with_reducible exact s1 | with_reducible exact Nat.le_trans s1 (by simp))
           intro v2 w2 o2 g2
           (first
             | have e2 := e1.grown g2 s1 (fun q hq => (o1.lt q hq).1)
             | have e2 := (e1.alloc s1 _).grown g2 (Nat.le_trans s1 (by simp)) (fun q hq => (o1.lt q hq).1))
           have s2 := e2.size)
        | ((first
              | (refine step_append_any _ rfl (.tmp 40) (.tmp 43) 42 rfl wr.heap.size 32 i1 (.slice none 0 0) 1 24 Try.underlying42 hi1 hy0 hy1 hy2 rfl (by decide) v2 (k + 1) ((us).take k ++ [.slice Ax (castL x).length cx]) rfl ?_ (.slice (if c = k then A else Option.map (fun x => x.add k) A) ((rowsN Ls).length - k) (c - k)) ((rowsN Ls).length - k) ((us).drop k) rfl ?_ LD.out N3.out (by unfold maxLen; omega) (by omega) s2 ?_))
           with_reducible exact o2
           (first | with_reducible exact rd1_someV (RD.out _ e2) | with_reducible exact rd1_zeroV (RD.out _ e2) | exact (by simpa using RD.out _ e2))
           intro v3 w3 o3 g3
           have e3 := e2.grown g3 s2 (fun q hq => (o2.lt q hq).1)))
      all_goals
        have hw3 : w3.ownsRow B 32 1 v3 ((rowsN Ls).take k ++ castL x :: (rowsN Ls).drop k).length (us.take k ++ .slice Ax (castL x).length cx :: us.drop k) := by
          have e1 : ((rowsN Ls).take k ++ castL x :: (rowsN Ls).drop k).length = k + 1 + ((rowsN Ls).length - k) := by
            rw [List.length_append, List.length_cons, List.length_take, List.length_drop, Nat.min_eq_left hkl]; omega
          have e4 : us.take k ++ .slice Ax (castL x).length cx :: us.drop k = us.take k ++ [.slice Ax (castL x).length cx] ++ us.drop k := by simp
          rw [e1, e4]; exact own_base o3 (Nat.le_trans hB HBT.out.size)
        have HG9 := Lib.hid (OwnG.ins HG.out hkl (btrans HBT.out e3) HX.out HF.out hw3)
        have HB9 := Lib.hid (btrans HBT.out e3)
        rw [← rowsN_ins] at HG9 hw3
        generalize hn : (rowsN (Ls.take k ++ x :: Ls.drop k)).length = n3 at hw3
        obtain ⟨A3, c3, rfl⟩ := own_form hw3
        clear o3 hw3
        go_wp2_with fail
        all_goals (go_ret; subst hn; (first | exact ⟨_, A3, c3, _, rfl, HP.out, HG9.out, HB9.out⟩ | exact ⟨_, A3, c3, rfl, HP.out, ⟨_, HG9.out⟩, HB9.out⟩))
end Go.Proofs.Ytjcnngnahijceaa.lists
