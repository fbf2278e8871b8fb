/- Guards: the contracts of the program's hasGuards and GuardSets. -/
import Derived.Handy
import Derived.Test.YthpodbhiopnnbaaDoorK16
import Derived.Test.YthpodbhiopnnbaaDoorK01
import Derived.Deep.DeepCutAuto
import Derived.Deep.RegionHeld3
import Derived.Deep.QuietTactic
import Derived.Test.YthpodbhiopnnbaaDoorK19
import Derived.Test.YthpodbhiopnnbaaDoorK21
import Derived.Test.YthpodbhiopnnbaaDoorK20
import Derived.Maps.AppendAt
import Derived.Test.YthpodbhiopnnbaaDoorK11
import Derived.Test.YthpodbhiopnnbaaDoorK04
namespace Go.Proofs.YthpodbhiopnnbaaDoor.ups
open Go.RowKit P2 words edges ints owns good adjs fns sets rets covs bitsI func grid gridl
set_option linter.unusedVariables false

/-- a valid Graph and a number of guards in it -/
def GrdOk (s : Int) (l : List Ed) (k : Int) : Prop := P2.Good s l ∧ 0 ≤ k ∧ k ≤ s
def gsL (s k : Int) : List (List Int) := rowN (setsK s.toNat k.toNat)
theorem gs_len (s k : Int) (l : List Ed) : gridl.tot (gdG (GrdOk s l k) (gsL s k)) ≤ 1048576 ∧ (gdG (GrdOk s l k) (gsL s k)).length ≤ 1048576 := by
  by_cases h : GrdOk s l k
  · rw [gdG_yes h]
    have h8 := h.1.2.1
    have hk := h.2.2
    have h1 := setsK_len (n := s.toNat) (k := k.toNat) (by omega) (by omega)
    have h2 : ∀ r ∈ gsL s k, r.length ≤ 8 := fun r hr => by
      obtain ⟨c, hc, rfl⟩ := List.mem_map.1 hr
      exact nw_len _ _
    have h3 : gridl.tot (gsL s k) ≤ (gsL s k).length * 8 := by
      unfold gridl.tot
      generalize gsL s k = rows at h2 ⊢
      induction rows with
      | nil => simp
      | cons r rs ih =>
        have := ih (fun r hr => h2 r (List.mem_cons_of_mem _ hr))
        have := h2 r List.mem_cons_self
        simp only [List.map_cons, List.sum_cons, List.length_cons]
        omega
    have h4 : (gsL s k).length = (setsK s.toNat k.toNat).length := rowN_len _
    omega
  · rw [gdG_no h]; simp [gridl.tot]
set_option maxHeartbeats 2000000 in
set_option maxRecDepth 100000 in
theorem hasGuards_any (s k : Int) (v : Value) (l : List Ed) (w : World) (h : Edges w v l) (hl : l.length ≤ 1048576) :
    Calls Tryd.prog 57 #[.agg #[.int .i64 s, v], .int .i64 k] w fun e w' => e = .returned (.bool (okG (GrdOk s l k))) ∧ Below w.heap.size w w' := by
  obtain ⟨A, c, rfl, -⟩ := h.form
  have b0 : Below w.heap.size w (w.alloc (.cells #[.int .i64 s, .slice A l.length c] 29)) := (Below.refl _ _).alloc (Nat.le_refl _) _
  have g0 := Blk.new w 29 #[.int .i64 s, .slice A l.length c]
  obtain ⟨p0, p1, -, -⟩ := g0.two
  have HN := Lib.hid (implIsGraph_any s _ l _ (h.below b0) hl)
  have HB0 := Lib.hid b0
  have HG0 := Lib.hid g0
  clear h b0 g0
  by_cases hgd : P2.Good s l
  · rw [goodB_yes hgd] at HN
    have HV : Hid (okG (GrdOk s l k) = (decide (0 ≤ k) && decide (k ≤ s))) := by
      show _ = _
      rw [Bool.eq_iff_iff, okG_iff, Bool.and_eq_true, decide_eq_true_iff, decide_eq_true_iff]
      exact ⟨fun h => h.2, fun h => ⟨hgd, h⟩⟩
    clear hgd
    by_cases h1 : 0 ≤ k
    · by_cases h2 : k ≤ s
      · have HV2 : Hid (okG (GrdOk s l k) = true) := by show _ = _; rw [HV.out, decide_eq_true h1, decide_eq_true h2]; rfl
        go_enter Tryd.func57, Tryd.ntmps57
        go_wp2_with fail
        refine HN.out.mono ?_
        rintro e w1 ⟨rfl, b1⟩
        have HB1 := Lib.hid (btrans HB0.out b1)
        have hg1 := HG0.out.below b1 HG0.out.lt
        clear p0 p1
        obtain ⟨p0, p1, -, -⟩ := hg1.two
        clear b1 hg1
        go_wp2_with fail
        go_ret
        rw [HV2.out]
        exact ⟨rfl, HB1.out⟩
      · have HV2 : Hid (okG (GrdOk s l k) = false) := by show _ = _; rw [HV.out, decide_eq_true h1, decide_eq_false h2]; rfl
        go_enter Tryd.func57, Tryd.ntmps57
        go_wp2_with fail
        refine HN.out.mono ?_
        rintro e w1 ⟨rfl, b1⟩
        have HB1 := Lib.hid (btrans HB0.out b1)
        have hg1 := HG0.out.below b1 HG0.out.lt
        clear p0 p1
        obtain ⟨p0, p1, -, -⟩ := hg1.two
        clear b1 hg1
        go_wp2_with fail
        go_ret
        rw [HV2.out]
        exact ⟨ret_bool (decide_eq_false (by omega)), HB1.out⟩
    · have HV2 : Hid (okG (GrdOk s l k) = false) := by show _ = _; rw [HV.out, decide_eq_false h1]; rfl
      go_enter Tryd.func57, Tryd.ntmps57
      go_wp2_with fail
      refine HN.out.mono ?_
      rintro e w1 ⟨rfl, b1⟩
      have HB1 := Lib.hid (btrans HB0.out b1)
      clear p0 p1 b1
      go_wp2_with fail
      go_ret
      rw [HV2.out]
      exact ⟨rfl, HB1.out⟩
  · rw [goodB_no hgd] at HN
    have HV2 : Hid (okG (GrdOk s l k) = false) := okG_no fun h => hgd h.1
    clear hgd
    go_enter Tryd.func57, Tryd.ntmps57
    go_wp2_with fail
    refine HN.out.mono ?_
    rintro e w1 ⟨rfl, b1⟩
    have HB1 := Lib.hid (btrans HB0.out b1)
    clear p0 p1 b1
    go_wp2_with fail
    go_ret
    rw [HV2.out]
    exact ⟨rfl, HB1.out⟩
end Go.Proofs.YthpodbhiopnnbaaDoor.ups

/- Guards: the contracts of the model's l10Good, l10Sets and GuardSets. -/
namespace Go.Proofs.YthpodbhiopnnbaaDoor.ups
open Go.RowKit P2 words edges ints owns good adjs fns sets rets covs bitsI func grid gridl
set_option linter.unusedVariables false

theorem l10Sets_any (n m : Nat) (v : Value) (w : World) (hn : n ≤ 8) (hm : m ≤ 8) :
    Calls Tryd.prog 46 #[.agg #[.int .i64 (n : Int), v], .int .i64 (m : Int)] w (RetX w (rowN (setsK n m))) := by
  have b0 : Below w.heap.size w (w.alloc (.cells #[.int .i64 (n : Int), v] 29)) := (Below.refl _ _).alloc (Nat.le_refl _) _
  have g0 := Blk.new w 29 #[.int .i64 (n : Int), v]
  obtain ⟨p0, p1, -, -⟩ := g0.two
  have HA := Lib.hid (l2All_any n v (w.alloc (.cells #[.int .i64 (n : Int), v] 29)) hn)
  have HB0 := Lib.hid b0
  have HCH : Hid (∀ (u : Value) (W : World), Ints W u (allN n) → Calls Tryd.prog 82 #[u, .int .i64 (m : Int)] W (RetX W (rowN (setsK n m)))) := fun u W hu => by
    have h_ := l8Choices_any m (by omega) u (allN n) W hu (by rw [allN_len]; exact hn)
    have h2 := chL_sets ⟨n, by omega⟩ ⟨m, by omega⟩
    simp only at h2
    rw [h2] at h_
    exact h_
  clear b0 g0
  go_enter Tryd.func46, Tryd.ntmps46
  go_wp2_with fail
  refine HA.out.mono ?_
  rintro e w1 ⟨A1, c1, rfl, o1, b1⟩
  have HE1 := Lib.hid (btrans HB0.out b1)
  have HC := Lib.hid (HCH.out _ w1 (show Ints w1 _ _ from Reads.of_own o1))
  clear o1 b1
  go_wp2_with fail
  refine HC.out.mono ?_
  rintro e w2 ⟨A2, c2, us, rfl, o2, b2⟩
  go_wp2_with fail
  go_ret
  exact ⟨A2, c2, us, rfl, o2.base HE1.out.size, btrans HE1.out b2⟩
set_option maxHeartbeats 2000000 in
set_option maxRecDepth 100000 in
theorem l10Good_any (s k : Int) (v : Value) (l : List Ed) (w : World) (h : Edges w v l) (hl : l.length ≤ 1048576) (hs1 : -9223372036854775808 ≤ s) (hs2 : s ≤ 9223372036854775807) :
    Calls Tryd.prog 55 #[.agg #[.int .i64 s, v], .int .i64 k] w fun e w' => e = .returned (.bool (okG (GrdOk s l k))) ∧ Below w.heap.size w w' := by
  obtain ⟨A, c, rfl, -⟩ := h.form
  have b0 : Below w.heap.size w (w.alloc (.cells #[.int .i64 s, .slice A l.length c] 29)) := (Below.refl _ _).alloc (Nat.le_refl _) _
  have g0 := Blk.new w 29 #[.int .i64 s, .slice A l.length c]
  obtain ⟨p0, p1, -, -⟩ := g0.two
  have HGD := Lib.hid (l2Good_any s _ l _ (h.below b0) hl hs1 hs2)
  have HIN := Lib.hid (fun (W : World) => l1In_any k 0 s W)
  have HB0 := Lib.hid b0
  have HG0 := Lib.hid g0
  clear h b0 g0
  by_cases hgd : P2.Good s l
  · rw [goodB_yes hgd] at HGD
    have HV : Hid (okG (GrdOk s l k) = inB k 0 s) := by
      show _ = _
      unfold inB
      rw [Bool.eq_iff_iff, okG_iff, decide_eq_true_iff]
      exact ⟨fun h => h.2, fun h => ⟨hgd, h⟩⟩
    clear hgd
    go_enter Tryd.func55, Tryd.ntmps55
    go_wp2_with fail
    refine HGD.out.mono ?_
    rintro e w1 ⟨rfl, b1⟩
    have HB1 := Lib.hid (btrans HB0.out b1)
    have hg1 := HG0.out.below b1 HG0.out.lt
    clear p0 p1
    obtain ⟨p0, p1, -, -⟩ := hg1.two
    clear b1 hg1
    go_wp2_with fail
    refine (HIN.out _).mono ?_
    rintro e w' ⟨rfl, rfl⟩
    go_wp2_with fail
    go_ret
    rw [HV.out]
    exact ⟨rfl, HB1.out⟩
  · rw [goodB_no hgd] at HGD
    have HV2 : Hid (okG (GrdOk s l k) = false) := okG_no fun h => hgd h.1
    clear hgd
    go_enter Tryd.func55, Tryd.ntmps55
    go_wp2_with fail
    refine HGD.out.mono ?_
    rintro e w1 ⟨rfl, b1⟩
    have HB1 := Lib.hid (btrans HB0.out b1)
    clear p0 p1 b1
    go_wp2_with fail
    go_ret
    rw [HV2.out]
    exact ⟨rfl, HB1.out⟩
end Go.Proofs.YthpodbhiopnnbaaDoor.ups

/- Guards: the contracts of the model's LeastDominating. -/
namespace Go.Proofs.YthpodbhiopnnbaaDoor.ups
open Go.RowKit P2 words edges ints good adjs fns sets rets covs bags balls bitsI func costs
set_option linter.unusedVariables false

theorem code_nwD {n b : Nat} (hb : b < 2 ^ n) : codeL (nw (bitB b) n) = b := by
  have hs : ∀ x ∈ nw (bitB b) n, (0 : Int) ≤ x := fun x hx => by obtain ⟨j, _, _, rfl⟩ := mem_nw.1 hx; omega
  apply Nat.eq_of_testBit_eq
  intro i
  rw [code_bit hs, Bool.eq_iff_iff, decide_eq_true_iff, mem_nw]
  constructor
  · rintro ⟨j, _, hp, e⟩
    have : i = j := by omega
    subst this; exact hp
  · intro h
    refine ⟨i, ?_, h, rfl⟩
    by_cases e : i < n
    · exact e
    · rw [Nat.testBit_lt_two_pow (Nat.lt_of_lt_of_le hb (Nat.pow_le_pow_right (by decide) (by omega)))] at h
      cases h
theorem ld_len (s : Int) (l : List Ed) : (inG (P2.Good s l) (ndN (ldN s.toNat l))).length ≤ 1048576 := inG_len fun _ => by
  unfold ndN
  have := nw_len (bitB (ldN s.toNat l)) 8
  omega
end Go.Proofs.YthpodbhiopnnbaaDoor.ups

/- Guards: the contract of the model's GuardAnswers. -/
namespace Go.Proofs.YthpodbhiopnnbaaDoor.ups
open Go.RowKit P2 words edges ints owns good adjs fns sets rets covs bags balls bitsI func lists grid gridr trip
set_option linter.unusedVariables false

theorem setsK_nd {n k : Nat} (hn : n ≤ 8) (hk : k ≤ 8) {i j a b : Nat} (hij : i < j) (ha : (setsK n k)[i]? = some a) (hb : (setsK n k)[j]? = some b) : a ≠ b := by
  have h := (down_pair (sets_parts hn hk).2.2.1).sublist (List.filter_sublist (p := fun x => !decide (onesN x < k)))
  have h2 := List.pairwise_iff_getElem.1 h
  obtain ⟨h3, h4⟩ := List.getElem?_eq_some_iff.1 ha
  obtain ⟨h5, h6⟩ := List.getElem?_eq_some_iff.1 hb
  have := h2 i j h3 h5 hij
  intro e
  have h7 : (setsK n k)[i] = (setsK n k)[j] := by rw [h4, h6, e]
  unfold setsK at h7
  rw [h7] at this
  omega
theorem ndN_inj {a b : Nat} (ha : a < 256) (hb : b < 256) (h : ndN a = ndN b) : a = b := by
  have h1 : ∀ c, c < 256 → codeL (ndN c) = c := fun c hc => by
    have h_ := code_nwD (n := 8) (b := c) hc
    exact h_
  rw [← h1 a ha, ← h1 b hb, h]
/-- the place of a set among all of its size -/
theorem place_of {n k a : Nat} (hn : n ≤ 8) (hk : k ≤ 8) (ha : a < 2 ^ n) (ho : onesN a = k) : ∃ m, (setsK n k)[m]? = some a ∧ ∀ (j : Nat) (y : List Int), j < m → (rowN (setsK n k))[j]? = some y → y ≠ ndN a := by
  obtain ⟨m, hm⟩ := List.getElem?_of_mem ((setsK_mem hn hk).2 ⟨ha, ho⟩)
  refine ⟨m, hm, fun j y hj hy e => ?_⟩
  unfold rowN at hy
  rw [List.getElem?_map] at hy
  cases hb : (setsK n k)[j]? with
  | none => rw [hb] at hy; cases hy
  | some b =>
    rw [hb] at hy
    have hy : y = ndN b := by simpa using hy.symm
    have hb2 := ((setsK_mem hn hk).1 (List.mem_of_getElem? hb)).1
    rw [e] at hy
    exact setsK_nd hn hk hj hb hm (ndN_inj (Nat.lt_of_lt_of_le hb2 (pow_le hn)) (Nat.lt_of_lt_of_le ha (pow_le hn)) hy.symm)
/-- the lists at the first places -/
def pkT (l : List Ed) (all : Bool) (x a : Nat) (L : List Nat) (j : Nat) : List (List Int) := ((plL l all x a L).take j).map fun i => ndN (L.getD i.toNat 0)
theorem pkT_succ {l : List Ed} {all : Bool} {x a : Nat} {L : List Nat} {j i : Nat} (h : (plL l all x a L)[j]? = some (i : Int)) : pkT l all x a L (j + 1) = pkT l all x a L j ++ [ndN (L.getD i 0)] := by
  unfold pkT
  rw [List.take_add_one, h, List.map_append]; rfl
theorem pkT_all (l : List Ed) (all : Bool) (x a : Nat) (L : List Nat) : pkT l all x a L (plL l all x a L).length = rowN (L.filter (ansB l all x a)) := by
  unfold pkT plL rowN nw
  rw [List.take_length, List.map_map]
  have key : ∀ (M : List Nat), ((List.range M.length).filter (fun i => ansB l all x a (M.getD i 0))).map (fun i => M.getD i 0) = M.filter (ansB l all x a) := by
    intro M
    induction M with
    | nil => rfl
    | cons b M ih =>
      rw [List.length_cons, List.range_succ_eq_map, List.filter_cons, List.filter_map, List.filter_cons]
      have h2 : List.map (fun i => (b :: M).getD i 0) (List.map Nat.succ ((List.range M.length).filter ((fun i => ansB l all x a ((b :: M).getD i 0)) ∘ Nat.succ))) = M.filter (ansB l all x a) := by
        rw [List.map_map, ← ih]
        rfl
      show List.map _ (if ansB l all x a b = true then _ else _) = _
      split
      · rw [List.map_cons, h2]; rfl
      · exact h2
  rw [← key L, List.map_map]
  apply List.map_congr_left
  intro i _
  simp
theorem plL_at {l : List Ed} {all : Bool} {x a : Nat} {L : List Nat} {j : Nat} {z : Int} (h : (plL l all x a L)[j]? = some z) : ∃ i : Nat, z = (i : Int) ∧ i < L.length := by
  obtain ⟨i, hi, hlt, _⟩ := reach.nw_at h
  exact ⟨i, hi, hlt⟩
theorem plL_up {l : List Ed} {all : Bool} {x a : Nat} {L : List Nat} {j k : Nat} {i m : Nat} (hjk : j < k) (hi : (plL l all x a L)[j]? = some (i : Int)) (hm : (plL l all x a L)[k]? = some (m : Int)) : i < m := by
  have h := List.pairwise_iff_getElem.1 (nw_asc (plP l all x a L) L.length)
  obtain ⟨h1, e1⟩ := List.getElem?_eq_some_iff.1 hi
  obtain ⟨h2, e2⟩ := List.getElem?_eq_some_iff.1 hm
  have := h j k h1 h2 hjk
  unfold plL at e1 e2
  rw [e1, e2] at this
  omega
theorem nodeG_yes {x s : Int} (h : 0 ≤ x ∧ x < s) : inB x 0 (s - 1) = true := by unfold inB; exact decide_eq_true (by omega)
theorem nodeG_no {x s : Int} (h : ¬ (0 ≤ x ∧ x < s)) : inB x 0 (s - 1) = false := by unfold inB; exact decide_eq_false (by omega)
set_option maxHeartbeats 8000000 in
set_option maxRecDepth 100000 in
theorem specGa_any (s x : Int) (all : Bool) (v u : Value) (l : List Ed) (xs : List Int) (w : World) (h : Edges w v l) (hl : l.length ≤ 1048576) (hu : Ints w u xs) (hxl : xs.length ≤ 1048576) (hs1 : -9223372036854775808 ≤ s) (hs2 : s ≤ 9223372036854775807) :
    Calls Tryd.prog 16 #[.agg #[.int .i64 s, v], u, .int .i64 x, .bool all] w (RetGr w (AtOk s l xs x) (rowN (gaN s l all xs x))) := by
  obtain ⟨A, c, rfl, -⟩ := h.form
  obtain ⟨A2, c2, rfl, -⟩ := hu.form
  obtain ⟨i1, hi1, hy0, hy1, hy2⟩ := info_parts infoRow
  have H := Lib.hid h
  have HU := Lib.hid hu
  have b0 : Below w.heap.size w ((w.alloc (.cells #[.int .i64 s, .slice A l.length c] 29)).alloc (.cells #[] 25)) := ((Below.refl _ _).alloc (Nat.le_refl _) _).alloc (by simp) _
  have g0 := (Blk.new w 29 #[.int .i64 s, .slice A l.length c]).alloc (.cells #[] 25)
  have o0 := own_new0 (w.alloc (.cells #[.int .i64 s, .slice A l.length c] 29)) 25 1
  rw [World.size_alloc] at o0
  obtain ⟨p0, p1, -, -⟩ := g0.two
  have HGD := Lib.hid (l2Good_any s _ l _ (h.below b0) hl hs1 hs2)
  have HB0 := Lib.hid b0
  have HG0 := Lib.hid g0
  have HO0 := Lib.hid (own_base (B' := w.heap.size) o0 (by omega))
  clear h hu b0 g0 o0
  by_cases hgd : P2.Good s l
  · rw [goodB_yes hgd] at HGD
    have h0 := hgd.1
    have h8 := hgd.2.1
    obtain ⟨n, rfl⟩ : ∃ n : Nat, s = (n : Int) := ⟨s.toNat, by omega⟩
    have hn : n ≤ 8 := by omega
    have HST := Lib.hid (fun (W : World) (hW : Below w.heap.size w W) => l2Set_any (n : Int) (.slice A l.length c) (.slice A2 xs.length c2) l xs W (HU.out.below hW) hxl h0 h8)
    have HND := Lib.hid (fun (W : World) (hW : Below w.heap.size w W) => l2Node_any (n : Int) x (.slice A l.length c) l W (H.out.below hW) h0 h8)
    have HHS := Lib.hid (fun (W : World) (hW : Below w.heap.size w W) => l1Has_any (.slice A2 xs.length c2) xs x W (HU.out.below hW) hxl)
    by_cases hso : SetOk (n : Int) l xs
    · rw [okG_yes ((rises_set hgd).2 hso)] at HST
      by_cases hx : 0 ≤ x ∧ x < (n : Int)
      · rw [nodeG_yes hx] at HND
        by_cases hin : x ∈ xs
        · rw [decide_eq_true hin] at HHS
          have HNO : Hid (¬ AtOk (n : Int) l xs x) := fun h => h.2.2 hin
          clear hgd hso hx hin
          go_enter Tryd.func16, Tryd.ntmps16
          go_wp2_with fail
          refine HGD.out.mono ?_
          rintro e w1 ⟨rfl, b1⟩
          have HE1 := Lib.hid (btrans HB0.out b1)
          have HG1 := Lib.hid (HG0.out.below b1 HG0.out.lt)
          have HO1 := Lib.hid (own_below HO0.out b1)
          clear p0 p1 b1
          obtain ⟨p0, p1, -, -⟩ := HG1.out.two
          go_wp2_with fail
          refine (HST.out w1 HE1.out).mono ?_
          rintro e w2 ⟨rfl, b2⟩
          have HE2 := Lib.hid (btrans HE1.out b2)
          have HG2 := Lib.hid (HG1.out.below b2 HG1.out.lt)
          have HO2 := Lib.hid (own_below HO1.out b2)
          clear p0 p1 b2
          obtain ⟨p0, p1, -, -⟩ := HG2.out.two
          go_wp2_with fail
          refine (HND.out w2 HE2.out).mono ?_
          rintro e w3 ⟨rfl, b3⟩
          have HE3 := Lib.hid (btrans HE2.out b3)
          have HG3 := Lib.hid (HG2.out.below b3 HG2.out.lt)
          have HO3 := Lib.hid (own_below HO2.out b3)
          clear p0 p1 b3
          obtain ⟨p0, p1, -, -⟩ := HG3.out.two
          go_wp2_with fail
          refine (HHS.out w3 HE3.out).mono ?_
          rintro e w' ⟨rfl, rfl⟩
          clear p0 p1
          go_wp2_with fail
          go_ret2
          exact RetGr.no HNO.out HO3.out HE3.out
        · rw [decide_eq_false hin] at HHS
          have hok : AtOk (n : Int) l xs x := ⟨hso, hx, hin⟩
          have HOK := Lib.hid hok
          obtain ⟨y, rfl⟩ : ∃ y : Nat, x = (y : Int) := ⟨x.toNat, by omega⟩
          have hk8 : xs.length ≤ 8 := Nat.le_trans (asc_len hso.2.2 hso.2.1) hn
          have hxa := set_nd hn hso
          have HV : Hid (rowN (gaN (n : Int) l all xs (y : Int)) = pkT l all y (codeL xs) (setsK n xs.length) (plL l all y (codeL xs) (setsK n xs.length)).length) := by
            show _ = _
            rw [pkT_all]
            unfold gaN
            rw [Int.toNat_natCast, Int.toNat_natCast]
          obtain ⟨m, hm, hfst⟩ := place_of hn hk8 (code_set hso) (set_onesM hn hso)
          have HSE := Lib.hid (fun (W : World) => l10Sets_any n xs.length (.slice A l.length c) W hn hk8)
          have hsl := setsK_len hn hk8
          have HAT := Lib.hid (fun (t : Value) (us : List Value) (W : World) (hW : Below w.heap.size w W) (ht : ReadsG W t us (rowN (setsK n xs.length))) => l4AtI_any t (.slice A2 xs.length c2) us (rowN (setsK n xs.length)) xs m W ht (HU.out.below hW) (by have h_ := rowN_at hm; rw [← hxa] at h_; exact h_) (fun j z hj hz => by have h_ := hfst j z hj hz; rw [← hxa] at h_; exact h_) (fun r hr => by obtain ⟨z, _, rfl⟩ := List.mem_map.1 hr; have := nw_len (bitB z) 8; unfold ndN; omega) (by rw [rowN_len]; omega))
          have HAN := Lib.hid (fun (t : Value) (us : List Value) (W : World) (hW : Below w.heap.size w W) (ht : ReadsG W t us (rowN (setsK n xs.length))) => l10Answers_any n xs.length m y (codeL xs) all (.slice A l.length c) t us (setsK n xs.length) l W (H.out.below hW) hl ht (fun z hz => (setsK_mem hn hk8).1 hz) hsl hm hgd hn)
          have HPA : Hid (∀ (j : Nat) (z : Int), (plL l all y (codeL xs) (setsK n xs.length))[j]? = some z → ∃ i : Nat, z = (i : Int) ∧ i < (setsK n xs.length).length) := fun j z h => plL_at h
          have HPU : Hid (∀ (j k i q : Nat), j < k → (plL l all y (codeL xs) (setsK n xs.length))[j]? = some (i : Int) → (plL l all y (codeL xs) (setsK n xs.length))[k]? = some (q : Int) → i < q) := fun j k i q h1 h2 h3 => plL_up h1 h2 h3
          have HPS : Hid (∀ (j i : Nat), (plL l all y (codeL xs) (setsK n xs.length))[j]? = some (i : Int) → pkT l all y (codeL xs) (setsK n xs.length) (j + 1) = pkT l all y (codeL xs) (setsK n xs.length) j ++ [ndN ((setsK n xs.length).getD i 0)]) := fun j i h => pkT_succ h
          have hpl : (plL l all y (codeL xs) (setsK n xs.length)).length ≤ 256 := Nat.le_trans (nw_len _ _) hsl
          have HT0 : Hid (pkT l all y (codeL xs) (setsK n xs.length) 0 = []) := rfl
          have HTL : Hid (∀ j, j ≤ (plL l all y (codeL xs) (setsK n xs.length)).length → (pkT l all y (codeL xs) (setsK n xs.length) j).length = j) := fun j hj => by unfold pkT; rw [List.length_map, List.length_take]; omega
          have HRT := Lib.hid (rowN_len (setsK n xs.length))
          have hrl : (rowN (setsK n xs.length)).length ≤ 256 := by rw [HRT.out]; exact hsl
          clear hgd hso hx hin hok hm hfst hxa
          generalize pkT l all y (codeL xs) (setsK n xs.length) = PT at *
          generalize plL l all y (codeL xs) (setsK n xs.length) = PL at *
          generalize setsK n xs.length = LK at *
          generalize codeL xs = a at *
          go_enter Tryd.func16, Tryd.ntmps16
          go_wp2_with fail
          refine HGD.out.mono ?_
          rintro e w1 ⟨rfl, b1⟩
          have HE1 := Lib.hid (btrans HB0.out b1)
          have HG1 := Lib.hid (HG0.out.below b1 HG0.out.lt)
          have HO1 := Lib.hid (own_below HO0.out b1)
          clear p0 p1 b1
          obtain ⟨p0, p1, -, -⟩ := HG1.out.two
          go_wp2_with fail
          refine (HST.out w1 HE1.out).mono ?_
          rintro e w2 ⟨rfl, b2⟩
          have HE2 := Lib.hid (btrans HE1.out b2)
          have HG2 := Lib.hid (HG1.out.below b2 HG1.out.lt)
          have HO2 := Lib.hid (own_below HO1.out b2)
          clear p0 p1 b2
          obtain ⟨p0, p1, -, -⟩ := HG2.out.two
          go_wp2_with fail
          refine (HND.out w2 HE2.out).mono ?_
          rintro e w3 ⟨rfl, b3⟩
          have HE3 := Lib.hid (btrans HE2.out b3)
          have HG3 := Lib.hid (HG2.out.below b3 HG2.out.lt)
          have HO3 := Lib.hid (own_below HO2.out b3)
          clear p0 p1 b3
          obtain ⟨p0, p1, -, -⟩ := HG3.out.two
          go_wp2_with fail
          refine (HHS.out w3 HE3.out).mono ?_
          rintro e w' ⟨rfl, rfl⟩
          go_wp2_with fail
          refine (HSE.out w3).mono ?_
          rintro e w4 ⟨A5, c5, us5, rfl, o5, b4⟩
          have HE4 := Lib.hid (btrans HE3.out b4)
          have HG4 := Lib.hid (HG3.out.below b4 HG3.out.lt)
          have HO4 := Lib.hid (own_below HO3.out b4)
          have HS4 := Lib.hid o5
          have hz3 := HE3.out.size
          have hz4 := b4.size
          have HOB : Hid (∀ k, (Value.slice (some ⟨w.heap.size + 1, 0, none⟩) 0 0).ownBlock = some k → k < w3.heap.size ∨ w4.heap.size ≤ k) := fun k hk => .inl (HO3.out.lt k hk).2
          clear p0 p1 b4 o5
          obtain ⟨p0, p1, -, -⟩ := HG4.out.two
          go_wp2_with fail
          refine wp_region_held_drew (S := (fun w' : World => w'.cell? ⟨w.heap.size, 0, none⟩ = some (.int .i64 (n : Int)) ∧ w'.cell? ⟨w.heap.size, 1, none⟩ = some (.slice A l.length c))) (by kernel_rfl) (by (try dsimp only); simp [*]) (fun hHeld => ?_)
          change wpAnyH _ _ _ _ _ _ #[false, false, false, false, false, false, false, false, false] _ _
          refine wpAnyH_take (i := 0) (oi := ⟨some 40, _, _, _, _, _⟩) (v := ?_) rfl (by kernel_rfl) (by kernel_rfl) (by kernel_rfl) (fun _ _ _ h => h) (Or.inl ⟨by rfl, ?_⟩) (by assumption) ?_
          rotate_left
          · (intro w hSw; (try dsimp only at hSw); go_simp; (try (with_reducible rfl)))
          try simp only [Act.put, List.setIfInBounds_toArray, List.set_cons_zero, List.set_cons_succ]
          refine wpAnyH_take (i := 1) (oi := ⟨some 41, _, _, _, _, _⟩) (v := ?_) rfl (by kernel_rfl) (by kernel_rfl) (by kernel_rfl) (fun _ _ _ h => h) (Or.inl ⟨by rfl, ?_⟩) (by assumption) ?_
          rotate_left
          · (intro w hSw; (try dsimp only at hSw); go_simp; (try (with_reducible rfl)))
          try simp only [Act.put, List.setIfInBounds_toArray, List.set_cons_zero, List.set_cons_succ]
          refine wpAnyH_take (i := 2) (oi := ⟨some 42, _, _, _, _, _⟩) (v := ?_) rfl (by kernel_rfl) (by kernel_rfl) (by kernel_rfl) (fun _ _ _ h => h) (Or.inl ⟨by rfl, ?_⟩) (by assumption) ?_
          rotate_left
          · (intro w hSw; (try dsimp only at hSw); go_simp; (try (with_reducible rfl)))
          try simp only [Act.put, List.setIfInBounds_toArray, List.set_cons_zero, List.set_cons_succ]
          refine wpAnyH_take (i := 3) (oi := ⟨some 43, _, _, _, _, _⟩) (v := ?_) rfl (by kernel_rfl) (by kernel_rfl) (by kernel_rfl) (fun _ _ _ h => h) (Or.inl ⟨by rfl, ?_⟩) (by assumption) ?_
          rotate_left
          · (intro w hSw; (try dsimp only at hSw); go_simp; (try (with_reducible rfl)))
          try simp only [Act.put, List.setIfInBounds_toArray, List.set_cons_zero, List.set_cons_succ]
          refine wpAnyH_take (i := 5) (oi := ⟨some 45, _, _, _, _, _⟩) (v := ?_) rfl (by kernel_rfl) (by kernel_rfl) (by kernel_rfl) (fun _ _ _ h => h) (Or.inl ⟨by rfl, ?_⟩) (by assumption) ?_
          rotate_left
          · (intro w hSw; (try dsimp only at hSw); go_simp; (try (with_reducible rfl)))
          try simp only [Act.put, List.setIfInBounds_toArray, List.set_cons_zero, List.set_cons_succ]
          refine wpAnyH_take (i := 6) (oi := ⟨some 46, _, _, _, _, _⟩) (v := ?_) rfl (by kernel_rfl) (by kernel_rfl) (by kernel_rfl) (fun _ _ _ h => h) (Or.inl ⟨by rfl, ?_⟩) (by assumption) ?_
          rotate_left
          · (intro w hSw; (try dsimp only at hSw); go_simp; (try (with_reducible rfl)))
          try simp only [Act.put, List.setIfInBounds_toArray, List.set_cons_zero, List.set_cons_succ]
          refine wpAnyH_ready (rs := [4]) (by kernel_rfl) (by simp) ?_
          refine AllReadyH.cons (o := ⟨some 44, _, _, _, _, _⟩) rfl (fun K hK => ?_) AllReadyH.nil
          go_simp
          (with_reducible refine (HAT.out _ us5 w4.drew HE4.out.drew (gridl.readsG_of_own (HS4.out.below (Below.refl _ _).drew))).mono ?_); rintro e w5 ⟨rfl, b5⟩; have d5 : Below w4.heap.size w4 w5 := btrans (Below.refl _ _).drew b5; obtain ⟨k0, k1, -, -⟩ := (HG4.out.below d5 HG4.out.lt).two; have HE5 := Lib.hid (btrans HE4.out d5)
          go_wp2_with fail
          refine hK.out _ _ (by (try dsimp only); simp [*]) (fun hHeld => ?_)
          clear hK K
          try simp only [List.setIfInBounds_toArray, List.set_cons_zero, List.set_cons_succ]
          refine wpAnyH_ready (rs := [7]) (by kernel_rfl) (by simp) ?_
          refine AllReadyH.cons (o := ⟨some 47, _, _, _, _, _⟩) rfl (fun K hK => ?_) AllReadyH.nil
          go_simp
          (with_reducible refine (HAN.out _ us5 w5 HE5.out (gridl.readsG_of_own (HS4.out.below d5))).mono ?_); rintro e w6 ⟨A6, c6, rfl, o6, b6⟩; have d6 : Below w4.heap.size w4 w6 := btrans d5 b6; obtain ⟨j0, j1, -, -⟩ := (HG4.out.below d6 HG4.out.lt).two
          go_wp2_with fail
          refine hK.out _ _ (by (try dsimp only); simp [*]) (fun hHeld => ?_)
          clear hK K
          try simp only [List.setIfInBounds_toArray, List.set_cons_zero, List.set_cons_succ]
          refine wpAnyH_take (i := 8) (oi := ⟨some 12, _, _, _, _, _⟩) (v := ?_) rfl (by kernel_rfl) (by kernel_rfl) (by kernel_rfl) (fun _ _ _ h => h) (Or.inl ⟨by rfl, ?_⟩) (by assumption) ?_
          rotate_left
          · (intro w hSw; (try dsimp only at hSw); go_simp; (try (with_reducible rfl)))
          try simp only [Act.put, List.setIfInBounds_toArray, List.set_cons_zero, List.set_cons_succ]
          refine wpAnyH_done (by kernel_rfl) ?_ _
          have HE6 := Lib.hid (btrans HE4.out d6)
          have HPK : Hid (Pick w6 w.heap.size w3.heap.size w4.heap.size 0 (.slice (some ⟨w.heap.size + 1, 0, none⟩) 0 0) (.slice A5 (rowN LK).length c5) [] us5 [] (rowN LK)) :=
            ⟨⟨own_below HO4.out d6, fun i u r hu => by simp at hu, fun i j u u' k _ hu => by simp at hu⟩, (gridl.OwnGR.new HS4.out).below d6, fun u hu => by simp at hu, HOB.out, hz3, d6.size⟩
          have HP6 := Lib.hid (own_base (B' := w.heap.size) o6 HE5.out.size)
          clear d5 d6 b5 b6 k0 k1 j0 j1 o6 p0 p1 hHeld HS4 HO4 HOB HG4 HE5
          go_wp2_with fail
          go_loopg [10, 13] PL.length (fun g ov jv wr => ∃ (j b : Nat) (ow : Value) (os : List Value), ow = ov ∧ j + g = PL.length ∧ jv = .int .i64 (j : Int) ∧ Pick wr w.heap.size w3.heap.size w4.heap.size b ow (.slice A5 (rowN LK).length c5) os us5 (PT j) (rowN LK) ∧ Hid (∀ k i : Nat, j ≤ k → PL[k]? = some (i : Int) → b ≤ i) ∧ wr.ownsRow w.heap.size 3 1 (.slice A6 PL.length c6) PL.length (cellsI PL) ∧ Below w.heap.size w wr)
          case atStart => exact ⟨0, 0, _, [], rfl, by omega, rfl, by rw [HT0.out]; exact HPK.out, fun k i _ _ => Nat.zero_le _, HP6.out, HE6.out⟩
          case round =>
            clear HPK HP6
            obtain ⟨j, b, ow, os, rfl, hjg, rfl, hpk, hbd, hP, hB⟩ := hrel
            obtain ⟨A7, c7, rfl⟩ := own_form hpk.1.1
            have HB := Lib.hid hB
            have HPK := Lib.hid hpk
            have HP := Lib.hid hP
            cases gk with
            | zero =>
              obtain rfl : j = PL.length := by omega
              clear hpk hP hB
              go_wp2_with fail
              go_ret2
              rw [HV.out]
              exact RetGr.yes HOK.out HPK.out.1 HB.out
            | succ g2 =>
              have hlt : j < PL.length := by omega
              have hlt' : (j : Int) < (PL.length : Int) := by omega
              obtain ⟨z, hz⟩ : ∃ z, PL[j]? = some z := ⟨_, List.getElem?_eq_getElem hlt⟩
              obtain ⟨i, rfl, hiL⟩ := HPA.out j z hz
              obtain ⟨d, hd⟩ : ∃ d, LK[i]? = some d := ⟨_, List.getElem?_eq_getElem hiL⟩
              have hil' : (i : Int) < ((rowN LK).length : Int) := by rw [HRT.out]; omega
              obtain ⟨gp, hgp, cp, -, -⟩ := own_at (i := j) hP (show (cellsI PL)[j]? = some (.int .i64 (i : Int)) from by simp [cellsI, hz])
              subst hgp
              obtain ⟨u, g5, o5, hu, hA5, cs, hru⟩ := (gridl.readsG_of_own hpk.2.1.1).row (rowN_at hd)
              subst hA5
              obtain ⟨Ar, cr, rfl, -⟩ := hru.form
              have HN := Lib.hid (HPS.out j i hz)
              rw [show LK.getD i 0 = d from by rw [List.getD_eq_getElem?_getD, hd]; rfl] at HN
              have HRD := Lib.hid (rowN_at hd)
              have HU5 := Lib.hid hu
              have hbi := hbd.out j i (Nat.le_refl _) hz
              have HBD : Hid (∀ k q : Nat, j + 1 ≤ k → PL[k]? = some (q : Int) → i + 1 ≤ q) := fun k q h1 h2 => HPU.out j k i q (by omega) hz h2
              have hOl : (PT j).length ≤ 256 := by rw [HTL.out j (by omega)]; omega
              have hul : os.length ≤ 256 := (hpk.1.len ▸ hOl)
              have hown0 := hpk.1.1
              have hsz := hB.size
              clear hz hd hru hu hpk hP hB hbd
              generalize PT j = Oj at *
              go_wp2_with (at_builtin; refine wpList_append_own_at _ rfl _ _ 35 rfl w.heap.size 25 i1 (.slice none 0 0) 1 24 Tryd.underlying35 hi1 hy0 hy1 hy2 rfl (by decide) _ _ _ rfl (hown0.alloc _) ⟨wr.heap.size, 0, none⟩ 1 1 [.slice Ar (ndN d).length cr] rfl rfl (cell_one_new _ _ _) (fun x hx => by simp at hx; subst hx; rfl) (by unfold maxLen; omega) (by omega) (by simp; omega) ?_; intro v10 w10 hown10 hgrow10 _ hl10)
              have HPK2 := Lib.hid (HPK.out.push HU5.out HRD.out hbi hown10 hgrow10 hl10)
              have HP2 : Hid (w10.ownsRow w.heap.size 3 1 (.slice (some ⟨gp, 0, none⟩) PL.length c6) PL.length (cellsI PL)) := (HP.out.alloc _).kept hgrow10 (by
                cases hh : (Value.slice (some ⟨gp, 0, none⟩) PL.length c6).ownBlock with
                | none => exact .inl rfl
                | some k => exact .inr fun e => own_apart HP.out hown0 tneI k hh e.symm)
              have HB10 := Lib.hid ((HB.out.alloc hsz (.cells #[.slice Ar (ndN d).length cr] 25)).grown hgrow10 (by simp; omega) (fun p_ e_ => (hown0.lt p_ e_).1))
              clear hown10 hgrow10 hl10 hown0 cp cs
              go_roundg g2
              case measure => omega
              case rel => exact ⟨j + 1, i + 1, v10, _, rfl, by omega, by go_num, by rw [HN.out]; exact HPK2.out, HBD, HP2.out, HB10.out⟩
      · rw [nodeG_no hx] at HND
        have HNO : Hid (¬ AtOk (n : Int) l xs x) := fun h => hx h.2.1
        clear hgd hso hx
        go_enter Tryd.func16, Tryd.ntmps16
        go_wp2_with fail
        refine HGD.out.mono ?_
        rintro e w1 ⟨rfl, b1⟩
        have HE1 := Lib.hid (btrans HB0.out b1)
        have HG1 := Lib.hid (HG0.out.below b1 HG0.out.lt)
        have HO1 := Lib.hid (own_below HO0.out b1)
        clear p0 p1 b1
        obtain ⟨p0, p1, -, -⟩ := HG1.out.two
        go_wp2_with fail
        refine (HST.out w1 HE1.out).mono ?_
        rintro e w2 ⟨rfl, b2⟩
        have HE2 := Lib.hid (btrans HE1.out b2)
        have HG2 := Lib.hid (HG1.out.below b2 HG1.out.lt)
        have HO2 := Lib.hid (own_below HO1.out b2)
        clear p0 p1 b2
        obtain ⟨p0, p1, -, -⟩ := HG2.out.two
        go_wp2_with fail
        refine (HND.out w2 HE2.out).mono ?_
        rintro e w3 ⟨rfl, b3⟩
        have HE3 := Lib.hid (btrans HE2.out b3)
        have HG3 := Lib.hid (HG2.out.below b3 HG2.out.lt)
        have HO3 := Lib.hid (own_below HO2.out b3)
        clear p0 p1 b3
        obtain ⟨p0, p1, -, -⟩ := HG3.out.two
        clear p0 p1
        go_wp2_with fail
        go_ret2
        exact RetGr.no HNO.out HO3.out HE3.out
    · rw [okG_no (fun h => hso ((rises_set hgd).1 h))] at HST
      have HNO : Hid (¬ AtOk (n : Int) l xs x) := fun h => hso h.1
      clear hgd hso
      go_enter Tryd.func16, Tryd.ntmps16
      go_wp2_with fail
      refine HGD.out.mono ?_
      rintro e w1 ⟨rfl, b1⟩
      have HE1 := Lib.hid (btrans HB0.out b1)
      have HG1 := Lib.hid (HG0.out.below b1 HG0.out.lt)
      have HO1 := Lib.hid (own_below HO0.out b1)
      clear p0 p1 b1
      obtain ⟨p0, p1, -, -⟩ := HG1.out.two
      go_wp2_with fail
      refine (HST.out w1 HE1.out).mono ?_
      rintro e w2 ⟨rfl, b2⟩
      have HE2 := Lib.hid (btrans HE1.out b2)
      have HG2 := Lib.hid (HG1.out.below b2 HG1.out.lt)
      have HO2 := Lib.hid (own_below HO1.out b2)
      clear p0 p1 b2
      obtain ⟨p0, p1, -, -⟩ := HG2.out.two
      clear p0 p1
      go_wp2_with fail
      go_ret2
      exact RetGr.no HNO.out HO2.out HE2.out
  · rw [goodB_no hgd] at HGD
    have HNO : Hid (¬ AtOk s l xs x) := fun h => hgd h.1.1
    clear hgd
    go_enter Tryd.func16, Tryd.ntmps16
    go_wp2_with fail
    refine HGD.out.mono ?_
    rintro e w1 ⟨rfl, b1⟩
    have HE1 := Lib.hid (btrans HB0.out b1)
    have HG1 := Lib.hid (HG0.out.below b1 HG0.out.lt)
    have HO1 := Lib.hid (own_below HO0.out b1)
    clear p0 p1 b1
    obtain ⟨p0, p1, -, -⟩ := HG1.out.two
    clear p0 p1
    go_wp2_with fail
    go_ret2
    exact RetGr.no HNO.out HO1.out HE1.out
theorem rowN_tot (L : List Nat) : gridl.tot (rowN L) ≤ L.length * 8 := by
  unfold gridl.tot rowN
  induction L with
  | nil => simp
  | cons c L ih =>
    have : (ndN c).length ≤ 8 := nw_len _ _
    simp only [List.map_cons, List.sum_cons, List.length_cons] at ih ⊢
    omega
theorem gd_bound {p : Prop} {L : List Nat} (h : p → L.length ≤ 256) : gridl.tot (gdG p (rowN L)) ≤ 1048576 ∧ (gdG p (rowN L)).length ≤ 1048576 := by
  by_cases hp : p
  · rw [gdG_yes hp, rowN_len]
    have h1 := rowN_tot L
    have h2 := h hp
    omega
  · rw [gdG_no hp]; simp [gridl.tot]
theorem ga_len (s x : Int) (l : List Ed) (all : Bool) (xs : List Int) : gridl.tot (gdG (AtOk s l xs x) (rowN (gaN s l all xs x))) ≤ 1048576 ∧ (gdG (AtOk s l xs x) (rowN (gaN s l all xs x))).length ≤ 1048576 := gd_bound fun h => by
  have h8 := h.1.1.2.1
  have h0 := h.1.1.1
  obtain ⟨n, rfl⟩ : ∃ n : Nat, s = (n : Int) := ⟨s.toNat, by omega⟩
  have hn : n ≤ 8 := by omega
  have hk := Nat.le_trans (asc_len h.1.2.2 h.1.2.1) hn
  unfold gaN
  exact Nat.le_trans (List.length_filter_le _ _) (setsK_len (by omega) hk)
end Go.Proofs.YthpodbhiopnnbaaDoor.ups

/- Guards: the contracts of the model's l10After, l10Falls and l10Resist. -/
namespace Go.Proofs.YthpodbhiopnnbaaDoor.ups
open Go.RowKit P2 words edges ints owns good adjs fns sets rets covs bags balls bitsI func lists times apps gridr grid trip minmax
set_option linter.unusedVariables false

theorem foldl_take {T P : List Int} {k : Nat} {p : Int} (h : P[k]? = some p) : (P.take (k + 1)).foldl (fun m p => max m (T.getD p.toNat 0)) 0 = max ((P.take k).foldl (fun m p => max m (T.getD p.toNat 0)) 0) (T.getD p.toNat 0) := by
  rw [List.take_add_one, h, List.foldl_append]; rfl
set_option maxHeartbeats 8000000 in
set_option maxRecDepth 100000 in
theorem l10After_any (u t : Value) (P T : List Int) (w : World) (hu : Ints w u P) (ht : Ints w t T) (hP : ∀ p ∈ P, ∃ i : Nat, p = (i : Int) ∧ i < T.length) (hPl : P.length ≤ 1048576) (hTl : T.length ≤ 1048576) :
    Calls Tryd.prog 114 #[u, t] w fun e w' => e = .returned (.tuple #[.int .i64 (if aftB T P = true then -1 else aftN T P), .bool (decide (0 < P.length))]) ∧ Below w.heap.size w w' := by
  obtain ⟨A1, c1, rfl, -⟩ := hu.form
  obtain ⟨A2, c2, rfl, -⟩ := ht.form
  have HU := Lib.hid hu
  have HT := Lib.hid ht
  have HP := Lib.hid hP
  have HK0 : Hid (aftB T (P.take 0) = false) := rfl
  have HB0 : Hid (Below w.heap.size w w) := Below.refl _ _
  have HN : Hid (aftN T P = (P.take P.length).foldl (fun m p => max m (T.getD p.toNat 0)) 0) := by show _ = _; rw [List.take_length]; rfl
  have HB9 : Hid (∀ k, k = P.length → aftB T (P.take k) = false → aftB T P = false) := fun k e h => by rw [e, List.take_length] at h; exact h
  have HF : Hid (∀ k p, P[k]? = some p → (P.take (k + 1)).foldl (fun m p => max m (T.getD p.toNat 0)) 0 = max ((P.take k).foldl (fun m p => max m (T.getD p.toNat 0)) 0) (T.getD p.toNat 0)) := fun k p h => foldl_take h
  have HF0 : Hid ((P.take 0).foldl (fun m p => max m (T.getD p.toNat 0)) 0 = 0) := rfl
  have HTB : Hid (∀ k p, P[k]? = some p → aftB T (P.take k) = false → decide (T.getD p.toNat 0 < 0) = false → aftB T (P.take (k + 1)) = false) := fun k p h1 h2 h3 => by
    unfold aftB at h2 ⊢
    rw [List.take_add_one, h1, List.any_append, h2]
    simpa using h3
  have HYE : Hid (∀ (k : Nat) (p : Int), P[k]? = some p → T.getD p.toNat 0 < 0 → aftB T P = true ∧ 0 < P.length) := fun k p h1 h2 => ⟨List.any_eq_true.2 ⟨p, List.mem_of_getElem? h1, decide_eq_true h2⟩, by have := (List.getElem?_eq_some_iff.1 h1).1; omega⟩
  obtain ⟨rv, hrv⟩ : ∃ rv : Int, rv = if aftB T P = true then -1 else aftN T P := ⟨_, rfl⟩
  obtain ⟨ok, hok⟩ : ∃ ok : Bool, ok = decide (0 < P.length) := ⟨_, rfl⟩
  rw [← hrv, ← hok]
  have HRV := Lib.hid hrv
  have HOK := Lib.hid hok
  clear hu ht hP hrv hok
  generalize hAF : (fun k => (P.take k).foldl (fun m p => max m (T.getD p.toNat 0)) 0) = AF at *
  have hAFk : ∀ k, (P.take k).foldl (fun m p => max m (T.getD p.toNat 0)) 0 = AF k := fun k => congrFun hAF k
  simp only [hAFk] at HN HF HF0
  clear hAF hAFk
  go_enter Tryd.func114, Tryd.ntmps114
  go_wp2_with fail
  go_loopg [6, 7] P.length (fun g bv iv wr => ∃ k : Nat, k + g = P.length ∧ iv = .int .i64 (k : Int) ∧ bv = .int .i64 (AF k) ∧ Hid (aftB T (P.take k) = false) ∧ Below w.heap.size w wr)
  case atStart => exact ⟨0, by omega, rfl, by rw [HF0.out], HK0, HB0.out⟩
  case round =>
    clear HK0 HB0
    obtain ⟨k, hkg, rfl, rfl, hal, hB⟩ := hrel
    have HB := Lib.hid hB
    cases gk with
    | zero =>
      obtain rfl : k = P.length := by omega
      have HV : Hid (aftB T P = false) := HB9.out _ rfl hal.out
      clear hB
      have HR : Hid (rv = AF P.length) := by show _ = _; rw [HRV.out, HV.out, if_neg (by decide), HN.out]
      go_wp2_with fail
      go_ret2
      rw [HR.out, HOK.out]
      exact ⟨rfl, HB.out⟩
    | succ g2 =>
      have hlt : k < P.length := by omega
      have hlt' : (k : Int) < (P.length : Int) := by omega
      obtain ⟨p, hp⟩ : ∃ p, P[k]? = some p := ⟨_, List.getElem?_eq_getElem hlt⟩
      obtain ⟨i, rfl, hi⟩ := HP.out p (List.mem_of_getElem? hp)
      obtain ⟨v, hv⟩ : ∃ v, T[i]? = some v := ⟨_, List.getElem?_eq_getElem hi⟩
      have hgd : T.getD ((i : Int)).toNat 0 = v := by rw [show ((i : Int)).toNat = i from rfl, List.getD_eq_getElem?_getD, hv]; rfl
      have hi' : (i : Int) < (T.length : Int) := by omega
      obtain ⟨_, _, e1, hcc⟩ := (show Ints wr (.slice A1 P.length c1) P from HU.out.below hB).form
      cases e1
      obtain ⟨g1, o1, rfl, q1⟩ := hcc k _ hp
      obtain ⟨_, _, e2, hcc2⟩ := (show Ints wr (.slice A2 T.length c2) T from HT.out.below hB).form
      cases e2
      obtain ⟨g2_, o2, rfl, q2⟩ := hcc2 i _ hv
      by_cases hneg : v < 0
      · have HY := Lib.hid (HYE.out k _ hp (by rw [hgd]; exact hneg))
        have HR : Hid (rv = -1) := by show _ = _; rw [HRV.out, HY.out.1, if_pos rfl]
        have HK : Hid (ok = true) := by show _ = _; rw [HOK.out]; exact decide_eq_true HY.out.2
        clear hB hgd hp hv hcc hcc2
        go_wp2_with fail
        go_ret2
        rw [HR.out, HK.out]
        exact ⟨rfl, HB.out⟩
      · have HF1 := Lib.hid (HF.out k _ hp)
        rw [hgd] at HF1
        have HT1 := Lib.hid (HTB.out k _ hp hal.out (by rw [hgd]; exact decide_eq_false hneg))
        have HM := Lib.hid (fun (W : World) => l1Most_any (AF k) v W)
        clear hB hgd hp hv hcc hcc2
        go_wp2_with fail
        refine (HM.out _).mono ?_
        rintro e w' ⟨rfl, rfl⟩
        go_wp2_with fail
        go_roundg g2
        case measure => omega
        case rel => exact ⟨k + 1, by omega, by go_num, by rw [HF1.out], HT1, HB.out⟩
theorem fal_no {T : List Int} {R : List (List Int)} {a : Nat} (h : ∀ x, x < R.length → (!a.testBit x && !(aftB T (R.getD x []))) = false) : falB T R a = false := by
  unfold falB
  rw [List.any_eq_false]
  intro x hx
  rw [h x (List.mem_range.1 hx)]; decide
theorem fal_yes {T : List Int} {R : List (List Int)} {a x : Nat} (hx : x < R.length) (h : (!a.testBit x && !(aftB T (R.getD x []))) = true) : falB T R a = true := by
  unfold falB
  exact List.any_eq_true.2 ⟨x, List.mem_range.2 hx, h⟩
set_option maxHeartbeats 8000000 in
set_option maxRecDepth 100000 in
theorem l10Falls_any (u v t : Value) (us : List Value) (a : Nat) (R : List (List Int)) (T : List Int) (w : World) (hu : Ints w u (ndN a)) (hR : ReadsG w v us R) (ht : Ints w t T) (ha : a < 256) (hP : ∀ r ∈ R, (∀ p ∈ r, ∃ i : Nat, p = (i : Int) ∧ i < T.length) ∧ r.length ≤ 1048576) (hRl : R.length ≤ 1048576) (hTl : T.length ≤ 1048576) :
    Calls Tryd.prog 108 #[u, v, t] w fun e w' => e = .returned (.bool (falB T R a)) ∧ Below w.heap.size w w' := by
  obtain ⟨A1, c1, rfl, -⟩ := hu.form
  obtain ⟨A2, c2, rfl, -⟩ := hR.1
  have HHS := Lib.hid (fun (x : Nat) (W : World) (hW : Below w.heap.size w W) => (by have h_ := l1Has_any (.slice A1 (ndN a).length c1) (ndN a) (x : Int) W (hu.below hW) (by have := nw_len (bitB a) 8; unfold ndN; omega); rw [has_nd ha] at h_; exact h_ : Calls Tryd.prog 45 #[.slice A1 (ndN a).length c1, .int .i64 (x : Int)] W fun e w' => e = .returned (.bool (a.testBit x)) ∧ W = w'))
  have HAF := Lib.hid (fun (r : List Int) (hr : r ∈ R) (z : Value) (W : World) (hz : Ints W z r) (hW : Below w.heap.size w W) => l10After_any z t r T W hz (ht.below hW) (hP r hr).1 (hP r hr).2 hTl)
  have HR := Lib.hid hR
  have HB0 : Hid (Below w.heap.size w w) := Below.refl _ _
  have HNO : Hid ((∀ x, x < R.length → (!a.testBit x && !(aftB T (R.getD x []))) = false) → falB T R a = false) := fun h => fal_no h
  have HYE : Hid (∀ x, x < R.length → (!a.testBit x && !(aftB T (R.getD x []))) = true → falB T R a = true) := fun x hx h => fal_yes hx h
  obtain ⟨rv, hrv⟩ : ∃ rv : Bool, rv = falB T R a := ⟨_, rfl⟩
  rw [← hrv] at HNO HYE ⊢
  clear hu hR ht hP hrv
  go_enter Tryd.func108, Tryd.ntmps108
  go_wp2_with fail
  go_loopg [7] R.length (fun g iv wr => ∃ k : Nat, k + g = R.length ∧ iv = .int .i64 (k : Int) ∧ Hid (∀ x, x < k → (!a.testBit x && !(aftB T (R.getD x []))) = false) ∧ Below w.heap.size w wr)
  case atStart => exact ⟨0, by omega, rfl, fun x hx => absurd hx (Nat.not_lt_zero _), HB0.out⟩
  case round =>
    clear HB0
    obtain ⟨k, hkg, rfl, hal, hB⟩ := hrel
    have HB := Lib.hid hB
    cases gk with
    | zero =>
      obtain rfl : k = R.length := by omega
      have HV : Hid (rv = false) := HNO.out hal.out
      clear hB
      go_wp2_with fail
      go_ret
      rw [HV.out]
      exact ⟨rfl, HB.out⟩
    | succ g2 =>
      have hlt : k < R.length := by omega
      have hlt' : (k : Int) < (R.length : Int) := by omega
      obtain ⟨r, hr⟩ : ∃ r, R[k]? = some r := ⟨_, List.getElem?_eq_getElem hlt⟩
      have hgd : R.getD k [] = r := by rw [List.getD_eq_getElem?_getD, hr]; rfl
      obtain ⟨z, g5, o5, hz5, hA5, ca5, hza⟩ := (show ReadsG wr (.slice A2 R.length c2) us R from HR.out.below hB).row hr
      subst hA5
      obtain ⟨Az, cz, rfl, -⟩ := hza.form
      have HH := Lib.hid (HHS.out k wr hB)
      have HA := Lib.hid (HAF.out r (List.mem_of_getElem? hr) _ wr hza hB)
      have HAL : Hid ((!a.testBit k && !(aftB T r)) = false → ∀ x, x < k + 1 → (!a.testBit x && !(aftB T (R.getD x []))) = false) := fun h x hx => by
        by_cases e : x = k
        · subst e; rw [hgd]; exact h
        · exact hal.out x (by omega)
      have HY1 : Hid ((!a.testBit k && !(aftB T r)) = true → rv = true) := fun h => HYE.out k hlt (by rw [hgd]; exact h)
      have HNN := Lib.hid (show 0 ≤ aftN T r from aftN_nonneg T r 0 (Int.le_refl _))
      have HBS : Hid (aftB T r = true → 0 < r.length) := fun h => aftB_some h
      clear hr hgd hz5 hza hB
      cases hb : a.testBit k with
      | true =>
        rw [hb] at HH HAL
        have HAL1 := Lib.hid (HAL.out rfl)
        clear hb
        go_wp2_with fail
        refine HH.out.mono ?_
        rintro e w' ⟨rfl, rfl⟩
        go_wp2_with fail
        go_roundg g2
        case measure => omega
        case rel => exact ⟨k + 1, by omega, by go_num, HAL1, HB.out⟩
      | false =>
        rw [hb] at HH HAL HY1
        clear hb
        cases hq : aftB T r with
        | true =>
          rw [hq] at HAL HA
          have HAL1 := Lib.hid (HAL.out rfl)
          have HRL := HBS.out hq
          rw [decide_eq_true HRL] at HA
          clear hq HRL
          go_wp2_with fail
          refine HH.out.mono ?_
          rintro e w' ⟨rfl, rfl⟩
          go_wp2_with fail
          refine HA.out.mono ?_
          rintro e w5 ⟨rfl, b5⟩
          have HB5 := Lib.hid (btrans HB.out b5)
          clear b5
          go_wp2_with fail
          go_roundg g2
          case measure => omega
          case rel => exact ⟨k + 1, by omega, by go_num, HAL1, HB5.out⟩
        | false =>
          rw [hq] at HY1 HA
          have HV := Lib.hid (HY1.out rfl)
          have hnn := HNN.out
          clear hq
          generalize aftN T r = m at *
          generalize decide (0 < r.length) = ok at *
          go_wp2_with fail
          refine HH.out.mono ?_
          rintro e w' ⟨rfl, rfl⟩
          go_wp2_with fail
          refine HA.out.mono ?_
          rintro e w5 ⟨rfl, b5⟩
          have HB5 := Lib.hid (btrans HB.out b5)
          clear b5
          cases ok with
          | true =>
            go_wp2_with fail
            go_ret
            rw [HV.out]
            exact ⟨rfl, HB5.out⟩
          | false =>
            go_wp2_with fail
            go_ret
            rw [HV.out]
            exact ⟨rfl, HB5.out⟩
theorem cellsI_setR (l : List Int) (k : Nat) (x : Int) : (cellsI l).set k (.int .i64 x) = cellsI (l.set k x) := by simp [cellsI, List.map_set]
theorem rep_succ (k : Nat) : List.replicate (k + 1) (-1 : Int) = List.replicate k (-1) ++ [-1] := List.replicate_succ'
set_option maxHeartbeats 8000000 in
set_option maxRecDepth 100000 in
theorem l10Resist_any (n k : Nat) (all : Bool) (v t : Value) (us vs : List Value) (L : List Nat) (l : List Ed) (w : World) (ht : ReadsG w t us (rowN L)) (hv : ReadsGG w v vs (tblL n l all L)) (hL : ∀ c ∈ L, c < 2 ^ n ∧ onesN c = k) (hLl : L.length ≤ 256) (hn : n ≤ 8) :
    Calls Tryd.prog 92 #[t, v] w (RowI w (L.map (resV n l all L))) := by
  obtain ⟨At, ct, rfl, -⟩ := ht.1
  obtain ⟨Av, cv, rfl, -⟩ := hv.1
  obtain ⟨i0, hi, hz0, hz1, hz2⟩ := info_parts infoInt
  have HT := Lib.hid ht
  have HVV := Lib.hid hv
  have HRL := Lib.hid (rowN_len L)
  have HTL : Hid ((tblL n l all L).length = L.length) := tblT_len n l all L (Nat.le_refl _)
  have HTA : Hid (∀ i a, L[i]? = some a → (tblL n l all L)[i]? = some (tbR l all L a n)) := fun i a h => by
    unfold tblL tblT
    rw [List.take_length, List.getElem?_map, h]; rfl
  have HB8 : Hid (∀ b ∈ L, b < 256) := fun b hb => Nat.lt_of_lt_of_le (hL b hb).1 (pow_le hn)
  have HPR : Hid (∀ (a : Nat) (T : List Int), T.length = L.length → ∀ r ∈ tbR l all L a n, (∀ p ∈ r, ∃ i : Nat, p = (i : Int) ∧ i < T.length) ∧ r.length ≤ 1048576) := fun a T hT r hr => by
    unfold tbR at hr
    obtain ⟨x, _, rfl⟩ := List.mem_map.1 hr
    split
    · exact ⟨fun p hp => by simp at hp, by simp⟩
    · refine ⟨fun p hp => ?_, Nat.le_trans (nw_len _ _) (by omega)⟩
      obtain ⟨i, hi, _, rfl⟩ := mem_nw.1 hp
      exact ⟨i, rfl, by omega⟩
  have HFL := Lib.hid (fun (a : Nat) (ha : a < 256) (T : List Int) (hT : T.length = L.length) (z y x : Value) (uu : List Value) (W : World) (hz : Ints W z (ndN a)) (hy : ReadsG W y uu (tbR l all L a n)) (hx : Ints W x T) => l10Falls_any z y x uu a (tbR l all L a n) T W hz hy hx ha (HPR.out a T hT) (by rw [tbR_len]; omega) (by omega))
  have HZ := Lib.hid (rtT_zero n l all L)
  have b0 : Below w.heap.size w (w.alloc (.cells #[] 3)) := (Below.refl _ _).alloc (Nat.le_refl _) _
  have HB0 := Lib.hid b0
  have HO0 : Hid ((w.alloc (.cells #[] 3)).ownsRow w.heap.size 3 1 (.slice (some ⟨w.heap.size, 0, none⟩) 0 0) 0 (cellsI (List.replicate 0 (-1)))) := own_new0 w 3 1
  have HEND : Hid (∀ t, usN n l all L (t + 1) = usN n l all L t → rtT n l all L (t + 1) = L.map (resV n l all L)) := fun t h => rtT_end h
  obtain ⟨RV, hrv⟩ : ∃ RV : List Int, RV = L.map (resV n l all L) := ⟨_, rfl⟩
  rw [← hrv] at HEND ⊢
  have HRVL : Hid (RV.length = L.length) := by show _ = _; rw [hrv, List.length_map]
  have HLL := Lib.hid hLl
  clear ht hv hL b0 hrv
  go_enter Tryd.func92, Tryd.ntmps92
  go_wp2_with fail
  go_loopg [5, 6] L.length (fun g tv iv wr => ∃ (i : Nat) (ow : Value), ow = tv ∧ i + g = L.length ∧ iv = .int .i64 (i : Int) ∧ wr.ownsRow w.heap.size 3 1 ow i (cellsI (List.replicate i (-1))) ∧ Below w.heap.size w wr)
  case atStart => exact ⟨0, _, rfl, by omega, rfl, HO0.out, HB0.out⟩
  case round =>
    clear HO0 HB0
    obtain ⟨i, ow, rfl, hig, rfl, hown, hB⟩ := hrel
    obtain ⟨A4, c4, rfl⟩ := own_form hown
    have HB := Lib.hid hB
    have HO := Lib.hid hown
    cases gk with
    | succ g2 =>
      have hlt : i < L.length := by omega
      have hlt' : (i : Int) < ((rowN L).length : Int) := by rw [HRL.out]; omega
      have hsz := hB.size
      clear hown hB
      have hownx := HO.out
      go_wp2_with (at_builtin; refine wpList_append_own _ rfl _ _ 25 rfl w.heap.size 3 i0 (.int .i64 0) 1 8 Tryd.underlying25 hi hz0 hz1 hz2 rfl (by decide) _ _ _ rfl (hownx.alloc _) ⟨wr.heap.size, 0, none⟩ 1 1 [.int .i64 (-1)] rfl rfl (cell_one_new _ _ _) (fun x hx => by simp at hx; subst hx; rfl) (by unfold maxLen; omega) (by omega) (by simp; omega) ?_; intro v8 w8 hown8 hgrow8 _)
      have HO8 : Hid (w8.ownsRow w.heap.size 3 1 v8 (i + 1) (cellsI (List.replicate (i + 1) (-1)))) := by
        show World.ownsRow _ _ _ _ _ _ _
        rw [rep_succ, show cellsI (List.replicate i (-1) ++ [-1]) = cellsI (List.replicate i (-1)) ++ [.int .i64 (-1)] from by simp [cellsI]]
        exact hown8
      have HB8' := Lib.hid ((HB.out.alloc HB.out.size (.cells #[.int .i64 (-1)] 3)).grown hgrow8 (by simp; have := HB.out.size; omega) (fun p_ e_ => (HO.out.lt p_ e_).1))
      clear hown8 hgrow8 hownx
      go_roundg g2
      case measure => omega
      case rel => exact ⟨i + 1, v8, rfl, by omega, by go_num, HO8.out, HB8'.out⟩
    | zero =>
      obtain rfl : i = L.length := by omega
      have HO1 : Hid (wr.ownsRow w.heap.size 3 1 (.slice A4 L.length c4) L.length (cellsI (rtT n l all L 0))) := by
        show World.ownsRow _ _ _ _ _ _ _
        rw [HZ.out]; exact HO.out
      have hnl : ¬ ((L.length : Int) < ((rowN L).length : Int)) := by rw [HRL.out]; omega
      have HG0 : Hid (Goes n l all L 0) := Goes.zero n l all L
      clear hown hB HO
      go_wp2_with fail
      clear hnl
      go_loopg [5, 7] (L.length + 1) (fun g tv rv wr => ∃ (t : Nat) (A4 : Option Addr) (c4 : Nat), t + g = L.length + 1 ∧ tv = .slice A4 L.length c4 ∧ rv = .int .i64 (t : Int) ∧ Hid (Goes n l all L t) ∧ wr.ownsRow w.heap.size 3 1 (.slice A4 L.length c4) L.length (cellsI (rtT n l all L t)) ∧ Below w.heap.size w wr)
      case atStart => exact ⟨0, A4, c4, by omega, rfl, rfl, HG0, HO1.out, HB.out⟩
      case round =>
        clear HO1 HG0 HB
        obtain ⟨t, A4, c4, htg, rfl, rfl, hgo, hown, hB⟩ := hrel
        have htl : t ≤ L.length := by have := hgo.out; unfold Goes at this; omega
        cases gk with
        | zero => omega
        | succ g2 =>
          have hTL := rtT_len n l all L t
          have HTI : Hid (Ints wr (.slice A4 L.length c4) (rtT n l all L t)) := by
            show Ints _ _ _
            have h_ : Reads wr 1 (.slice A4 L.length c4) L.length (cellsI (rtT n l all L t)) := Reads.of_own hown
            unfold Ints
            rw [hTL]; exact h_
          have how := l1Own_any (.slice A4 L.length c4) (rtT n l all L t) wr HTI.out (by omega)
          unfold RowI at how
          rw [hTL] at how
          have HOW := Lib.hid how
          have HTW : Hid (∀ W, Below wr.heap.size wr W → Ints W (.slice A4 L.length c4) (rtT n l all L t)) := fun W hW => by
            have h_ := HTI.out.below hW
            rw [hTL] at h_
            show Reads _ _ _ _ _
            rw [hTL]; exact h_
          have HB := Lib.hid hB
          have hszo := hB.size
          have HN0' := Lib.hid (nxT_zero n l all L t)
          have HNA := Lib.hid (nxT_all n l all L t)
          have HNL := Lib.hid (fun i (h : i ≤ L.length) => nxT_len n l all L t h)
          obtain ⟨wo, hwo⟩ : ∃ wo, wo = wr := ⟨_, rfl⟩
          subst hwo
          clear hown hB hTL how
          go_wp2_with fail
          refine HOW.out.mono ?_
          rintro e w3 ⟨A6, c6, rfl, o6, b6⟩
          have HN3 : Hid (w3.ownsRow wo.heap.size 3 1 (.slice A6 L.length c6) L.length (cellsI (nxT n l all L t 0))) := by
            show World.ownsRow _ _ _ _ _ _ _
            rw [HN0'.out]; exact o6
          have HB3 := Lib.hid b6
          have HG3 : Hid (grB n l all L t 0 = false) := rfl
          clear o6 b6
          go_wp2_with fail
          go_loopg [9, 10] L.length (fun g gv iv wr => ∃ i : Nat, i + g = L.length ∧ gv = .bool (grB n l all L t i) ∧ iv = .int .i64 (i : Int) ∧ wr.ownsRow wo.heap.size 3 1 (.slice A6 L.length c6) L.length (cellsI (nxT n l all L t i)) ∧ Below wo.heap.size wo wr)
          case atStart => exact ⟨0, by omega, by rw [HG3.out], rfl, HN3.out, HB3.out⟩
          case round =>
            clear HN3 HB3 HG3
            obtain ⟨i, hig2, rfl, rfl, hown, hB1⟩ := hrel
            have HO := Lib.hid hown
            have HB1 := Lib.hid hB1
            have HBW := Lib.hid (btrans HB.out hB1)
            cases gk with
            | zero =>
              obtain rfl : i = L.length := by omega
              have hnl : ¬ ((L.length : Int) < ((rowN L).length : Int)) := by rw [HRL.out]; omega
              have HO1 := Lib.hid (own_base hown hszo)
              clear hown hB1
              cases hg : grB n l all L t L.length with
              | false =>
                have HE := Lib.hid (HEND.out t (grB_no hg))
                go_wp2_with fail
                go_ret
                refine ⟨A6, c6, by rw [HRVL.out]; rfl, ?_, HBW.out⟩
                rw [← HE.out, ← HNA.out, HNL.out _ (Nat.le_refl _)]
                exact HO1.out
              | true =>
                have HG1 := Lib.hid (hgo.out.next (grB_yes hg))
                clear hg
                go_wp2_with fail
                go_roundg g2
                case measure => omega
                case rel => exact ⟨t + 1, A6, c6, by omega, rfl, by go_num, HG1, by rw [← HNA.out]; exact HO1.out, HBW.out⟩
            | succ g3 =>
              have hlt : i < L.length := by omega
              have hlt' : (i : Int) < ((rowN L).length : Int) := by rw [HRL.out]; omega
              have hlt3 : (i : Int) < ((tblL n l all L).length : Int) := by rw [HTL.out]; omega
              have hlt2 : (i : Int) < (L.length : Int) := by omega
              obtain ⟨a, ha⟩ : ∃ a, L[i]? = some a := ⟨_, List.getElem?_eq_getElem hlt⟩
              have haL := List.mem_of_getElem? ha
              have ha8 := HB8.out a haL
              have hT1 := rtT_at (n := n) (l := l) (all := all) (t := t) ha
              have hneg := rt_neg (n := n) (l := l) (all := all) (t := t) haL
              obtain ⟨ua, gs, os, hua, hAs, cs, hus⟩ := (HT.out.below HBW.out).row (rowN_at ha)
              subst hAs
              obtain ⟨Aa, ca, rfl, -⟩ := hus.form
              obtain ⟨ub, gt, ot, hub, hAt, cb, uu, hut⟩ := (HVV.out.below HBW.out).row (HTA.out i a ha)
              subst hAt
              obtain ⟨Ab, cb_, rfl, -⟩ := hut.1
              obtain ⟨_, _, e1, hcc⟩ := (show Reads wr 1 (.slice A4 L.length c4) L.length (cellsI (rtT n l all L t)) from by have h_ := HTW.out wr hB1; unfold Ints at h_; rw [rtT_len] at h_; exact h_)
              cases e1
              obtain ⟨g1, o1, rfl, -, q1_⟩ := hcc (by omega)
              have q1 := q1_ i _ (cellsI_at hT1)
              have hGS := grB_succ (n := n) (l := l) (all := all) (t := t) ha
              have HTWr := Lib.hid (HTW.out)
              have HUS := Lib.hid hus
              have HUT := Lib.hid hut
              clear hcc q1_ hua hub
              by_cases hin : a ∈ usN n l all L t
              · rw [if_pos hin] at q1
                have HF := Lib.hid (fun (W : World) (hW : Below wr.heap.size wr W) => HFL.out a ha8 (rtT n l all L t) (rtT_len n l all L t) _ _ (.slice (some ⟨g1, o1, none⟩) L.length c4) uu W (HUS.out.below hW) (HUT.out.below hW) (HTWr.out W (btrans HB1.out hW)))
                rw [fal_hold] at HF
                rw [decide_eq_true hin] at hGS
                cases hh : holdB n l all (usN n l all L t) a with
                | true =>
                  rw [hh] at HF hGS
                  have HK := Lib.hid (nxT_keep (rt_stays ha hin hh) (by rw [hT1, if_pos hin]))
                  rw [Bool.not_true, Bool.and_false, Bool.or_false] at hGS
                  have HGS := Lib.hid hGS
                  have HOD := Lib.hid (fun (W : World) (hW : Below wr.heap.size wr W) => own_below HO.out hW)
                  clear hGS hneg hown hB1 hus hut hT1 hh hin
                  go_wp2_with fail
                  refine wp_region_held_drew (S := (fun w' : World => w'.cell? ⟨g1, o1 + i, none⟩ = some (.int .i64 (-1)) ∧ w'.cell? ⟨gs, os + i, none⟩ = some (.slice Aa (ndN a).length ca) ∧ w'.cell? ⟨gt, ot + i, none⟩ = some (.slice Ab (tbR l all L a n).length cb_))) (by kernel_rfl) (by (try dsimp only); simp [*]) (fun hHeld => ?_)
                  change wpAnyH _ _ _ _ _ _ #[false, false, false, false, false, false, false, false, false, false, false, false, false, false, false, false, false] _ _
                  refine wpAnyH_take (i := 0) (oi := ⟨some 31, _, _, _, _, _⟩) (v := ?_) rfl (by kernel_rfl) (by kernel_rfl) (by kernel_rfl) (fun _ _ _ h => h) (Or.inl ⟨by rfl, ?_⟩) (by assumption) ?_
                  rotate_left
                  · (intro w hSw; (try dsimp only at hSw); go_simp; (try (with_reducible rfl)))
                  try simp only [Act.put, List.setIfInBounds_toArray, List.set_cons_zero, List.set_cons_succ]
                  refine wpAnyH_take (i := 1) (oi := ⟨some 32, _, _, _, _, _⟩) (v := ?_) rfl (by kernel_rfl) (by kernel_rfl) (by kernel_rfl) (fun _ _ _ h => h) (Or.inl ⟨by rfl, ?_⟩) (by assumption) ?_
                  rotate_left
                  · (intro w hSw; (try dsimp only at hSw); go_simp; (try (with_reducible rfl)))
                  try simp only [Act.put, List.setIfInBounds_toArray, List.set_cons_zero, List.set_cons_succ]
                  refine wpAnyH_take (i := 2) (oi := ⟨some 33, _, _, _, _, _⟩) (v := ?_) rfl (by kernel_rfl) (by kernel_rfl) (by kernel_rfl) (fun _ _ _ h => h) (Or.inl ⟨by rfl, ?_⟩) (by assumption) ?_
                  rotate_left
                  · (intro w hSw; (try dsimp only at hSw); go_simp; (try (with_reducible rfl)))
                  try simp only [Act.put, List.setIfInBounds_toArray, List.set_cons_zero, List.set_cons_succ]
                  refine wpAnyH_take (i := 3) (oi := ⟨some 34, _, _, _, _, _⟩) (v := ?_) rfl (by kernel_rfl) (by kernel_rfl) (by kernel_rfl) (fun _ _ _ h => h) (Or.inl ⟨by rfl, ?_⟩) (by assumption) ?_
                  rotate_left
                  · (intro w hSw; (try dsimp only at hSw); go_simp; (try (with_reducible rfl)))
                  try simp only [Act.put, List.setIfInBounds_toArray, List.set_cons_zero, List.set_cons_succ]
                  refine wpAnyH_take (i := 4) (oi := ⟨some 35, _, _, _, _, _⟩) (v := ?_) rfl (by kernel_rfl) (by kernel_rfl) (by kernel_rfl) (fun _ _ _ h => h) (Or.inl ⟨by rfl, ?_⟩) (by assumption) ?_
                  rotate_left
                  · (intro w hSw; (try dsimp only at hSw); go_simp; (try (with_reducible rfl)))
                  try simp only [Act.put, List.setIfInBounds_toArray, List.set_cons_zero, List.set_cons_succ]
                  refine wpAnyH_take (i := 5) (oi := ⟨some 36, _, _, _, _, _⟩) (v := ?_) rfl (by kernel_rfl) (by kernel_rfl) (by kernel_rfl) (fun _ _ _ h => h) (Or.inl ⟨by rfl, ?_⟩) (by assumption) ?_
                  rotate_left
                  · (intro w hSw; (try dsimp only at hSw); go_simp; (try (with_reducible rfl)))
                  try simp only [Act.put, List.setIfInBounds_toArray, List.set_cons_zero, List.set_cons_succ]
                  refine wpAnyH_take (i := 6) (oi := ⟨some 37, _, _, _, _, _⟩) (v := ?_) rfl (by kernel_rfl) (by kernel_rfl) (by kernel_rfl) (fun _ _ _ h => h) (Or.inl ⟨by rfl, ?_⟩) (by assumption) ?_
                  rotate_left
                  · (intro w hSw; (try dsimp only at hSw); go_simp; (try (with_reducible rfl)))
                  try simp only [Act.put, List.setIfInBounds_toArray, List.set_cons_zero, List.set_cons_succ]
                  refine wpAnyH_take (i := 7) (oi := ⟨some 38, _, _, _, _, _⟩) (v := ?_) rfl (by kernel_rfl) (by kernel_rfl) (by kernel_rfl) (fun _ _ _ h => h) (Or.inl ⟨by rfl, ?_⟩) (by assumption) ?_
                  rotate_left
                  · (intro w hSw; (try dsimp only at hSw); go_simp; (try (with_reducible rfl)))
                  try simp only [Act.put, List.setIfInBounds_toArray, List.set_cons_zero, List.set_cons_succ]
                  refine wpAnyH_take (i := 8) (oi := ⟨some 39, _, _, _, _, _⟩) (v := ?_) rfl (by kernel_rfl) (by kernel_rfl) (by kernel_rfl) (fun _ _ _ h => h) (Or.inl ⟨by rfl, ?_⟩) (by assumption) ?_
                  rotate_left
                  · (intro w hSw; (try dsimp only at hSw); go_simp; (try (with_reducible rfl)))
                  try simp only [Act.put, List.setIfInBounds_toArray, List.set_cons_zero, List.set_cons_succ]
                  refine wpAnyH_take (i := 9) (oi := ⟨some 40, _, _, _, _, _⟩) (v := ?_) rfl (by kernel_rfl) (by kernel_rfl) (by kernel_rfl) (fun _ _ _ h => h) (Or.inl ⟨by rfl, ?_⟩) (by assumption) ?_
                  rotate_left
                  · (intro w hSw; (try dsimp only at hSw); go_simp; (try (with_reducible rfl)))
                  try simp only [Act.put, List.setIfInBounds_toArray, List.set_cons_zero, List.set_cons_succ]
                  refine wpAnyH_take (i := 10) (oi := ⟨some 41, _, _, _, _, _⟩) (v := ?_) rfl (by kernel_rfl) (by kernel_rfl) (by kernel_rfl) (fun _ _ _ h => h) (Or.inl ⟨by rfl, ?_⟩) (by assumption) ?_
                  rotate_left
                  · (intro w hSw; (try dsimp only at hSw); go_simp; (try (with_reducible rfl)))
                  try simp only [Act.put, List.setIfInBounds_toArray, List.set_cons_zero, List.set_cons_succ]
                  refine wpAnyH_take (i := 11) (oi := ⟨some 42, _, _, _, _, _⟩) (v := ?_) rfl (by kernel_rfl) (by kernel_rfl) (by kernel_rfl) (fun _ _ _ h => h) (Or.inl ⟨by rfl, ?_⟩) (by assumption) ?_
                  rotate_left
                  · (intro w hSw; (try dsimp only at hSw); go_simp; (try (with_reducible rfl)))
                  try simp only [Act.put, List.setIfInBounds_toArray, List.set_cons_zero, List.set_cons_succ]
                  refine wpAnyH_take (i := 12) (oi := ⟨some 43, _, _, _, _, _⟩) (v := ?_) rfl (by kernel_rfl) (by kernel_rfl) (by kernel_rfl) (fun _ _ _ h => h) (Or.inl ⟨by rfl, ?_⟩) (by assumption) ?_
                  rotate_left
                  · (intro w hSw; (try dsimp only at hSw); go_simp; (try (with_reducible rfl)))
                  try simp only [Act.put, List.setIfInBounds_toArray, List.set_cons_zero, List.set_cons_succ]
                  refine wpAnyH_take (i := 13) (oi := ⟨some 44, _, _, _, _, _⟩) (v := ?_) rfl (by kernel_rfl) (by kernel_rfl) (by kernel_rfl) (fun _ _ _ h => h) (Or.inl ⟨by rfl, ?_⟩) (by assumption) ?_
                  rotate_left
                  · (intro w hSw; (try dsimp only at hSw); go_simp; (try (with_reducible rfl)))
                  try simp only [Act.put, List.setIfInBounds_toArray, List.set_cons_zero, List.set_cons_succ]
                  refine wpAnyH_take (i := 14) (oi := ⟨some 45, _, _, _, _, _⟩) (v := ?_) rfl (by kernel_rfl) (by kernel_rfl) (by kernel_rfl) (fun _ _ _ h => h) (Or.inl ⟨by rfl, ?_⟩) (by assumption) ?_
                  rotate_left
                  · (intro w hSw; (try dsimp only at hSw); go_simp; (try (with_reducible rfl)))
                  try simp only [Act.put, List.setIfInBounds_toArray, List.set_cons_zero, List.set_cons_succ]
                  refine wpAnyH_ready (rs := [15]) (by kernel_rfl) (by simp) ?_
                  refine AllReadyH.cons (o := ⟨some 46, _, _, _, _, _⟩) rfl (fun K hK => ?_) AllReadyH.nil
                  go_simp
                  (with_reducible refine (HF.out wr.drew (Below.refl _ _).drew).mono ?_); rintro e w5 ⟨rfl, b5⟩; have d5 : Below wr.heap.size wr w5 := btrans (Below.refl _ _).drew b5; have k0 := nearv.cell_keep q1 d5; have k1 := nearv.cell_keep cs d5; have k2 := nearv.cell_keep cb d5
                  go_wp2_with fail
                  refine hK.out _ _ (by (try dsimp only); simp [*]) (fun hHeld => ?_)
                  clear hK K
                  try simp only [List.setIfInBounds_toArray, List.set_cons_zero, List.set_cons_succ]
                  refine wpAnyH_take (i := 16) (oi := ⟨some 47, _, _, _, _, _⟩) (v := ?_) rfl (by kernel_rfl) (by kernel_rfl) (by kernel_rfl) (fun _ _ _ h => h) (Or.inl ⟨by rfl, ?_⟩) (by assumption) ?_
                  rotate_left
                  · (intro w hSw; (try dsimp only at hSw); go_simp; (try (with_reducible rfl)))
                  try simp only [Act.put, List.setIfInBounds_toArray, List.set_cons_zero, List.set_cons_succ]
                  refine wpAnyH_done (by kernel_rfl) ?_ _
                  have HO5 := Lib.hid (HOD.out w5 d5)
                  have HB5 := Lib.hid (btrans HB1.out d5)
                  clear b5 d5 k0 k1 k2 q1 cs cb hHeld
                  go_wp2_with fail
                  go_roundg g3
                  case measure => omega
                  case rel => exact ⟨i + 1, by omega, by rw [HGS.out], by go_num, by rw [← HK.out]; exact HO5.out, HB5.out⟩
                | false =>
                  rw [hh] at HF hGS
                  have HK := Lib.hid (nxT_set (rt_falls ha hin hh))
                  have HNI := Lib.hid (HNL.out i (by omega))
                  obtain ⟨x0, hx0⟩ : ∃ x, (nxT n l all L t i)[i]? = some x := ⟨_, List.getElem?_eq_getElem (by rw [HNI.out]; exact hlt)⟩
                  obtain ⟨g6, hA6, -⟩ := own_at (i := i) hown (cellsI_at hx0)
                  subst hA6
                  rw [Bool.not_false, Bool.and_true, Bool.or_true] at hGS
                  have HGS := Lib.hid hGS
                  have HOD := Lib.hid (fun (W : World) (hW : Below wr.heap.size wr W) => own_below HO.out hW)
                  clear hGS hneg hown hB1 hus hut hT1 hh hin
                  go_wp2_with fail
                  refine wp_region_held_drew (S := (fun w' : World => w'.cell? ⟨g1, o1 + i, none⟩ = some (.int .i64 (-1)) ∧ w'.cell? ⟨gs, os + i, none⟩ = some (.slice Aa (ndN a).length ca) ∧ w'.cell? ⟨gt, ot + i, none⟩ = some (.slice Ab (tbR l all L a n).length cb_))) (by kernel_rfl) (by (try dsimp only); simp [*]) (fun hHeld => ?_)
                  change wpAnyH _ _ _ _ _ _ #[false, false, false, false, false, false, false, false, false, false, false, false, false, false, false, false, false] _ _
                  refine wpAnyH_take (i := 0) (oi := ⟨some 31, _, _, _, _, _⟩) (v := ?_) rfl (by kernel_rfl) (by kernel_rfl) (by kernel_rfl) (fun _ _ _ h => h) (Or.inl ⟨by rfl, ?_⟩) (by assumption) ?_
                  rotate_left
                  · (intro w hSw; (try dsimp only at hSw); go_simp; (try (with_reducible rfl)))
                  try simp only [Act.put, List.setIfInBounds_toArray, List.set_cons_zero, List.set_cons_succ]
                  refine wpAnyH_take (i := 1) (oi := ⟨some 32, _, _, _, _, _⟩) (v := ?_) rfl (by kernel_rfl) (by kernel_rfl) (by kernel_rfl) (fun _ _ _ h => h) (Or.inl ⟨by rfl, ?_⟩) (by assumption) ?_
                  rotate_left
                  · (intro w hSw; (try dsimp only at hSw); go_simp; (try (with_reducible rfl)))
                  try simp only [Act.put, List.setIfInBounds_toArray, List.set_cons_zero, List.set_cons_succ]
                  refine wpAnyH_take (i := 2) (oi := ⟨some 33, _, _, _, _, _⟩) (v := ?_) rfl (by kernel_rfl) (by kernel_rfl) (by kernel_rfl) (fun _ _ _ h => h) (Or.inl ⟨by rfl, ?_⟩) (by assumption) ?_
                  rotate_left
                  · (intro w hSw; (try dsimp only at hSw); go_simp; (try (with_reducible rfl)))
                  try simp only [Act.put, List.setIfInBounds_toArray, List.set_cons_zero, List.set_cons_succ]
                  refine wpAnyH_take (i := 3) (oi := ⟨some 34, _, _, _, _, _⟩) (v := ?_) rfl (by kernel_rfl) (by kernel_rfl) (by kernel_rfl) (fun _ _ _ h => h) (Or.inl ⟨by rfl, ?_⟩) (by assumption) ?_
                  rotate_left
                  · (intro w hSw; (try dsimp only at hSw); go_simp; (try (with_reducible rfl)))
                  try simp only [Act.put, List.setIfInBounds_toArray, List.set_cons_zero, List.set_cons_succ]
                  refine wpAnyH_take (i := 4) (oi := ⟨some 35, _, _, _, _, _⟩) (v := ?_) rfl (by kernel_rfl) (by kernel_rfl) (by kernel_rfl) (fun _ _ _ h => h) (Or.inl ⟨by rfl, ?_⟩) (by assumption) ?_
                  rotate_left
                  · (intro w hSw; (try dsimp only at hSw); go_simp; (try (with_reducible rfl)))
                  try simp only [Act.put, List.setIfInBounds_toArray, List.set_cons_zero, List.set_cons_succ]
                  refine wpAnyH_take (i := 5) (oi := ⟨some 36, _, _, _, _, _⟩) (v := ?_) rfl (by kernel_rfl) (by kernel_rfl) (by kernel_rfl) (fun _ _ _ h => h) (Or.inl ⟨by rfl, ?_⟩) (by assumption) ?_
                  rotate_left
                  · (intro w hSw; (try dsimp only at hSw); go_simp; (try (with_reducible rfl)))
                  try simp only [Act.put, List.setIfInBounds_toArray, List.set_cons_zero, List.set_cons_succ]
                  refine wpAnyH_take (i := 6) (oi := ⟨some 37, _, _, _, _, _⟩) (v := ?_) rfl (by kernel_rfl) (by kernel_rfl) (by kernel_rfl) (fun _ _ _ h => h) (Or.inl ⟨by rfl, ?_⟩) (by assumption) ?_
                  rotate_left
                  · (intro w hSw; (try dsimp only at hSw); go_simp; (try (with_reducible rfl)))
                  try simp only [Act.put, List.setIfInBounds_toArray, List.set_cons_zero, List.set_cons_succ]
                  refine wpAnyH_take (i := 7) (oi := ⟨some 38, _, _, _, _, _⟩) (v := ?_) rfl (by kernel_rfl) (by kernel_rfl) (by kernel_rfl) (fun _ _ _ h => h) (Or.inl ⟨by rfl, ?_⟩) (by assumption) ?_
                  rotate_left
                  · (intro w hSw; (try dsimp only at hSw); go_simp; (try (with_reducible rfl)))
                  try simp only [Act.put, List.setIfInBounds_toArray, List.set_cons_zero, List.set_cons_succ]
                  refine wpAnyH_take (i := 8) (oi := ⟨some 39, _, _, _, _, _⟩) (v := ?_) rfl (by kernel_rfl) (by kernel_rfl) (by kernel_rfl) (fun _ _ _ h => h) (Or.inl ⟨by rfl, ?_⟩) (by assumption) ?_
                  rotate_left
                  · (intro w hSw; (try dsimp only at hSw); go_simp; (try (with_reducible rfl)))
                  try simp only [Act.put, List.setIfInBounds_toArray, List.set_cons_zero, List.set_cons_succ]
                  refine wpAnyH_take (i := 9) (oi := ⟨some 40, _, _, _, _, _⟩) (v := ?_) rfl (by kernel_rfl) (by kernel_rfl) (by kernel_rfl) (fun _ _ _ h => h) (Or.inl ⟨by rfl, ?_⟩) (by assumption) ?_
                  rotate_left
                  · (intro w hSw; (try dsimp only at hSw); go_simp; (try (with_reducible rfl)))
                  try simp only [Act.put, List.setIfInBounds_toArray, List.set_cons_zero, List.set_cons_succ]
                  refine wpAnyH_take (i := 10) (oi := ⟨some 41, _, _, _, _, _⟩) (v := ?_) rfl (by kernel_rfl) (by kernel_rfl) (by kernel_rfl) (fun _ _ _ h => h) (Or.inl ⟨by rfl, ?_⟩) (by assumption) ?_
                  rotate_left
                  · (intro w hSw; (try dsimp only at hSw); go_simp; (try (with_reducible rfl)))
                  try simp only [Act.put, List.setIfInBounds_toArray, List.set_cons_zero, List.set_cons_succ]
                  refine wpAnyH_take (i := 11) (oi := ⟨some 42, _, _, _, _, _⟩) (v := ?_) rfl (by kernel_rfl) (by kernel_rfl) (by kernel_rfl) (fun _ _ _ h => h) (Or.inl ⟨by rfl, ?_⟩) (by assumption) ?_
                  rotate_left
                  · (intro w hSw; (try dsimp only at hSw); go_simp; (try (with_reducible rfl)))
                  try simp only [Act.put, List.setIfInBounds_toArray, List.set_cons_zero, List.set_cons_succ]
                  refine wpAnyH_take (i := 12) (oi := ⟨some 43, _, _, _, _, _⟩) (v := ?_) rfl (by kernel_rfl) (by kernel_rfl) (by kernel_rfl) (fun _ _ _ h => h) (Or.inl ⟨by rfl, ?_⟩) (by assumption) ?_
                  rotate_left
                  · (intro w hSw; (try dsimp only at hSw); go_simp; (try (with_reducible rfl)))
                  try simp only [Act.put, List.setIfInBounds_toArray, List.set_cons_zero, List.set_cons_succ]
                  refine wpAnyH_take (i := 13) (oi := ⟨some 44, _, _, _, _, _⟩) (v := ?_) rfl (by kernel_rfl) (by kernel_rfl) (by kernel_rfl) (fun _ _ _ h => h) (Or.inl ⟨by rfl, ?_⟩) (by assumption) ?_
                  rotate_left
                  · (intro w hSw; (try dsimp only at hSw); go_simp; (try (with_reducible rfl)))
                  try simp only [Act.put, List.setIfInBounds_toArray, List.set_cons_zero, List.set_cons_succ]
                  refine wpAnyH_take (i := 14) (oi := ⟨some 45, _, _, _, _, _⟩) (v := ?_) rfl (by kernel_rfl) (by kernel_rfl) (by kernel_rfl) (fun _ _ _ h => h) (Or.inl ⟨by rfl, ?_⟩) (by assumption) ?_
                  rotate_left
                  · (intro w hSw; (try dsimp only at hSw); go_simp; (try (with_reducible rfl)))
                  try simp only [Act.put, List.setIfInBounds_toArray, List.set_cons_zero, List.set_cons_succ]
                  refine wpAnyH_ready (rs := [15]) (by kernel_rfl) (by simp) ?_
                  refine AllReadyH.cons (o := ⟨some 46, _, _, _, _, _⟩) rfl (fun K hK => ?_) AllReadyH.nil
                  go_simp
                  (with_reducible refine (HF.out wr.drew (Below.refl _ _).drew).mono ?_); rintro e w5 ⟨rfl, b5⟩; have d5 : Below wr.heap.size wr w5 := btrans (Below.refl _ _).drew b5; have k0 := nearv.cell_keep q1 d5; have k1 := nearv.cell_keep cs d5; have k2 := nearv.cell_keep cb d5
                  go_wp2_with fail
                  refine hK.out _ _ (by (try dsimp only); simp [*]) (fun hHeld => ?_)
                  clear hK K
                  try simp only [List.setIfInBounds_toArray, List.set_cons_zero, List.set_cons_succ]
                  refine wpAnyH_take (i := 16) (oi := ⟨some 47, _, _, _, _, _⟩) (v := ?_) rfl (by kernel_rfl) (by kernel_rfl) (by kernel_rfl) (fun _ _ _ h => h) (Or.inl ⟨by rfl, ?_⟩) (by assumption) ?_
                  rotate_left
                  · (intro w hSw; (try dsimp only at hSw); go_simp; (try (with_reducible rfl)))
                  try simp only [Act.put, List.setIfInBounds_toArray, List.set_cons_zero, List.set_cons_succ]
                  refine wpAnyH_done (by kernel_rfl) ?_ _
                  have HO5 := Lib.hid (HOD.out w5 d5)
                  have HB5 := Lib.hid (btrans HB1.out d5)
                  clear b5 d5 k0 k1 k2 q1 cs cb hHeld
                  have hO5 := HO5.out
                  have f0 := hO5.cellAt i (by rw [Nat.mul_one]; exact hlt)
                  rw [cellsI_at hx0] at f0
                  have z0 := hO5.frozenAt i
                  have HST := Lib.hid (HO5.out.stored i (.int .i64 (t : Int))).1
                  clear hx0
                  go_wp2_with fail
                  go_roundg g3
                  case measure => omega
                  case rel =>
                    have h_ := HST.out
                    rw [cellsI_setR, HK.out] at h_
                    exact ⟨i + 1, by omega, by rw [HGS.out], by go_num, h_, HB5.out.setCell (by have := (HO5.out.lt g6 rfl).1; simp; omega) _⟩
              · rw [if_neg hin] at q1 hneg
                rw [decide_eq_false hin] at hGS hneg
                have HK := Lib.hid (nxT_keep (rt_fixed ha hin) (by rw [hT1, if_neg hin]))
                have hnn : decide (resV n l all L a < 0) = false := hneg
                rw [Bool.false_and, Bool.or_false] at hGS
                have HGS := Lib.hid hGS
                clear hGS hneg hown hB1 hus hut hT1
                generalize resV n l all L a = rv at *
                go_wp2_with fail
                refine wp_region_held_drew (S := (fun w' : World => w'.cell? ⟨g1, o1 + i, none⟩ = some (.int .i64 rv))) (by kernel_rfl) (by (try dsimp only); simp [*]) (fun hHeld => ?_)
                change wpAnyH _ _ _ _ _ _ #[false, false, false, false, false, false, false, false, false, false, false, false, false, false, false, false, false] _ _
                refine wpAnyH_take (i := 0) (oi := ⟨some 31, _, _, _, _, _⟩) (v := ?_) rfl (by kernel_rfl) (by kernel_rfl) (by kernel_rfl) (fun _ _ _ h => h) (Or.inl ⟨by rfl, ?_⟩) (by assumption) ?_
                rotate_left
                · (intro w hSw; (try dsimp only at hSw); go_simp; (try (with_reducible rfl)))
                try simp only [Act.put, List.setIfInBounds_toArray, List.set_cons_zero, List.set_cons_succ]
                refine wpAnyH_take (i := 1) (oi := ⟨some 32, _, _, _, _, _⟩) (v := ?_) rfl (by kernel_rfl) (by kernel_rfl) (by kernel_rfl) (fun _ _ _ h => h) (Or.inl ⟨by rfl, ?_⟩) (by assumption) ?_
                rotate_left
                · (intro w hSw; (try dsimp only at hSw); go_simp; (try (with_reducible rfl)))
                try simp only [Act.put, List.setIfInBounds_toArray, List.set_cons_zero, List.set_cons_succ]
                refine wpAnyH_take (i := 2) (oi := ⟨some 33, _, _, _, _, _⟩) (v := ?_) rfl (by kernel_rfl) (by kernel_rfl) (by kernel_rfl) (fun _ _ _ h => h) (Or.inl ⟨by rfl, ?_⟩) (by assumption) ?_
                rotate_left
                · (intro w hSw; (try dsimp only at hSw); go_simp; (try (with_reducible rfl)))
                try simp only [Act.put, List.setIfInBounds_toArray, List.set_cons_zero, List.set_cons_succ]
                refine wpAnyH_take (i := 3) (oi := ⟨some 34, _, _, _, _, _⟩) (v := ?_) rfl (by kernel_rfl) (by kernel_rfl) (by kernel_rfl) (fun _ _ _ h => h) (Or.inl ⟨by rfl, ?_⟩) (by assumption) ?_
                rotate_left
                · (intro w hSw; (try dsimp only at hSw); go_simp; (try (with_reducible rfl)))
                try simp only [Act.put, List.setIfInBounds_toArray, List.set_cons_zero, List.set_cons_succ]
                refine wpAnyH_take (i := 4) (oi := ⟨some 35, _, _, _, _, _⟩) (v := ?_) rfl (by kernel_rfl) (by kernel_rfl) (by kernel_rfl) (fun _ _ _ h => h) (Or.inl ⟨by rfl, ?_⟩) (by assumption) ?_
                rotate_left
                · (intro w hSw; (try dsimp only at hSw); go_simp; (try (with_reducible rfl)))
                try simp only [Act.put, List.setIfInBounds_toArray, List.set_cons_zero, List.set_cons_succ]
                refine wpAnyH_take (i := 5) (oi := ⟨some 36, _, _, _, _, _⟩) (v := ?_) rfl (by kernel_rfl) (by kernel_rfl) (by kernel_rfl) (fun _ _ _ h => h) (Or.inl ⟨by rfl, ?_⟩) (by assumption) ?_
                rotate_left
                · (intro w hSw; (try dsimp only at hSw); go_simp; (try (with_reducible rfl)))
                try simp only [Act.put, List.setIfInBounds_toArray, List.set_cons_zero, List.set_cons_succ]
                refine wpAnyH_take (i := 6) (oi := ⟨some 37, _, _, _, _, _⟩) (v := undef) rfl (by kernel_rfl) (by kernel_rfl) (by kernel_rfl) (fun _ _ _ h => h) (Or.inr ⟨by rfl, rfl⟩) (by assumption) ?_
                try simp only [Act.put, List.setIfInBounds_toArray, List.set_cons_zero, List.set_cons_succ]
                refine wpAnyH_take (i := 7) (oi := ⟨some 38, _, _, _, _, _⟩) (v := undef) rfl (by kernel_rfl) (by kernel_rfl) (by kernel_rfl) (fun _ _ _ h => h) (Or.inr ⟨by rfl, rfl⟩) (by assumption) ?_
                try simp only [Act.put, List.setIfInBounds_toArray, List.set_cons_zero, List.set_cons_succ]
                refine wpAnyH_take (i := 8) (oi := ⟨some 39, _, _, _, _, _⟩) (v := undef) rfl (by kernel_rfl) (by kernel_rfl) (by kernel_rfl) (fun _ _ _ h => h) (Or.inr ⟨by rfl, rfl⟩) (by assumption) ?_
                try simp only [Act.put, List.setIfInBounds_toArray, List.set_cons_zero, List.set_cons_succ]
                refine wpAnyH_take (i := 9) (oi := ⟨some 40, _, _, _, _, _⟩) (v := undef) rfl (by kernel_rfl) (by kernel_rfl) (by kernel_rfl) (fun _ _ _ h => h) (Or.inr ⟨by rfl, rfl⟩) (by assumption) ?_
                try simp only [Act.put, List.setIfInBounds_toArray, List.set_cons_zero, List.set_cons_succ]
                refine wpAnyH_take (i := 10) (oi := ⟨some 41, _, _, _, _, _⟩) (v := undef) rfl (by kernel_rfl) (by kernel_rfl) (by kernel_rfl) (fun _ _ _ h => h) (Or.inr ⟨by rfl, rfl⟩) (by assumption) ?_
                try simp only [Act.put, List.setIfInBounds_toArray, List.set_cons_zero, List.set_cons_succ]
                refine wpAnyH_take (i := 11) (oi := ⟨some 42, _, _, _, _, _⟩) (v := undef) rfl (by kernel_rfl) (by kernel_rfl) (by kernel_rfl) (fun _ _ _ h => h) (Or.inr ⟨by rfl, rfl⟩) (by assumption) ?_
                try simp only [Act.put, List.setIfInBounds_toArray, List.set_cons_zero, List.set_cons_succ]
                refine wpAnyH_take (i := 12) (oi := ⟨some 43, _, _, _, _, _⟩) (v := undef) rfl (by kernel_rfl) (by kernel_rfl) (by kernel_rfl) (fun _ _ _ h => h) (Or.inr ⟨by rfl, rfl⟩) (by assumption) ?_
                try simp only [Act.put, List.setIfInBounds_toArray, List.set_cons_zero, List.set_cons_succ]
                refine wpAnyH_take (i := 13) (oi := ⟨some 44, _, _, _, _, _⟩) (v := undef) rfl (by kernel_rfl) (by kernel_rfl) (by kernel_rfl) (fun _ _ _ h => h) (Or.inr ⟨by rfl, rfl⟩) (by assumption) ?_
                try simp only [Act.put, List.setIfInBounds_toArray, List.set_cons_zero, List.set_cons_succ]
                refine wpAnyH_take (i := 14) (oi := ⟨some 45, _, _, _, _, _⟩) (v := undef) rfl (by kernel_rfl) (by kernel_rfl) (by kernel_rfl) (fun _ _ _ h => h) (Or.inr ⟨by rfl, rfl⟩) (by assumption) ?_
                try simp only [Act.put, List.setIfInBounds_toArray, List.set_cons_zero, List.set_cons_succ]
                refine wpAnyH_take (i := 15) (oi := ⟨some 46, _, _, _, _, _⟩) (v := undef) rfl (by kernel_rfl) (by kernel_rfl) (by kernel_rfl) (fun _ _ _ h => h) (Or.inr ⟨by rfl, rfl⟩) (by assumption) ?_
                try simp only [Act.put, List.setIfInBounds_toArray, List.set_cons_zero, List.set_cons_succ]
                refine wpAnyH_take (i := 16) (oi := ⟨some 47, _, _, _, _, _⟩) (v := ?_) rfl (by kernel_rfl) (by kernel_rfl) (by kernel_rfl) (fun _ _ _ h => h) (Or.inl ⟨by rfl, ?_⟩) (by assumption) ?_
                rotate_left
                · (intro w hSw; (try dsimp only at hSw); go_simp; (try (with_reducible rfl)))
                try simp only [Act.put, List.setIfInBounds_toArray, List.set_cons_zero, List.set_cons_succ]
                refine wpAnyH_done (by kernel_rfl) ?_ _
                go_wp2_with fail
                go_roundg g3
                case measure => omega
                case rel => exact ⟨i + 1, by omega, by rw [HGS.out], by go_num, by rw [← HK.out]; exact HO.out.drew, HB1.out.drew⟩
end Go.Proofs.YthpodbhiopnnbaaDoor.ups

/- The contract of slices.ContainsFunc over words. -/
namespace Go.Proofs.YthpodbhiopnnbaaDoor.ups
open Go.RowKit P2 words edges ints good adjs fns sets rets covs bitsI func
set_option linter.unusedVariables false

theorem containsUU_any (u : Value) (xs : List Nat) (f : FuncId) (caps : Array Value) (p : Nat → Bool) (w : World) (hu : Nums w u xs) (hxl : xs.length ≤ 1048576) (h : FnU w f caps xs p) :
    Calls Tryd.prog 68 #[u, .func (.func f) #[] caps] w fun e w' => e = .returned (.bool (xs.any p)) ∧ Below w.heap.size w w' := by
  have HI := Lib.hid (indexFuncU_any u xs f caps p w hu hxl h)
  have HD := Lib.hid (idxF_any p xs)
  obtain ⟨A2, c2, rfl, -⟩ := hu.form
  clear hu h
  go_enter Tryd.func68, Tryd.ntmps68
  go_wp2_with fail
  refine HI.out.mono ?_
  rintro e w1 ⟨rfl, b1⟩
  go_wp2_with fail
  go_ret
  exact ⟨ret_bool HD.out, b1⟩
end Go.Proofs.YthpodbhiopnnbaaDoor.ups
