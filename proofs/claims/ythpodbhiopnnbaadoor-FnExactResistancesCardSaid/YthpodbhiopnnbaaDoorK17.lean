/- Guards: the contract of the model's l10Moves. -/
import Derived.Handy
import Derived.Test.YthpodbhiopnnbaaDoorK16
import Derived.Maps.AppendAt
import Derived.Deep.DeepCutAuto
import Derived.Deep.RegionHeld3
import Derived.Deep.QuietTactic
import Derived.Test.YthpodbhiopnnbaaDoorK14
import Derived.Shelf.Spec.TrailingZeros
import Derived.Test.YthpodbhiopnnbaaDoorK15
import Derived.Test.YthpodbhiopnnbaaDoorK08
import Derived.Test.YthpodbhiopnnbaaDoorK04
import Derived.Test.YthpodbhiopnnbaaDoorK13
namespace Go.Proofs.YthpodbhiopnnbaaDoor.ups
open Go.RowKit P2 words edges ints good adjs fns sets rets covs bags balls bitsI func lists times apps trip
set_option linter.unusedVariables false

/-- two rows of the call's own that lie apart -/
def Two (w : World) (B : Nat) (u v : Value) (L M : List Int) : Prop :=
  w.ownsRow B 3 1 u L.length (cellsI L) ∧ w.ownsRow B 3 1 v M.length (cellsI M) ∧ ∀ b, u.ownBlock = some b → v.ownBlock ≠ some b
theorem Two.below {w w' : World} {B : Nat} {u v : Value} {L M : List Int} (h : Two w B u v L M) (hb : Below w.heap.size w w') : Two w' B u v L M :=
  ⟨own_below h.1 hb, own_below h.2.1 hb, h.2.2⟩
theorem Two.swap {w : World} {B : Nat} {u v : Value} {L M : List Int} (h : Two w B u v L M) : Two w B v u M L :=
  ⟨h.2.1, h.1, fun b hb hc => h.2.2 b hc hb⟩
theorem Two.push {w w' : World} {B : Nat} {u v u' : Value} {L M : List Int} {x : Int} {o : Obj} (h : Two w B u v L M) (ho : w'.ownsRow B 3 1 u' (L.length + 1) (cellsI L ++ [.int .i64 x])) (hg : (w.alloc o).grownBy w' u.ownBlock)
    (hl : u'.ownBlock = u.ownBlock ∨ u'.ownBlock = some (w.alloc o).heap.size) : Two w' B u' v (L ++ [x]) M := by
  refine ⟨?_, (h.2.1.alloc o).kept hg ?_, fun b hb hc => ?_⟩
  · rw [List.length_append, show cellsI (L ++ [x]) = cellsI L ++ [.int .i64 x] from by simp [cellsI]]
    exact ho
  · cases hv : v.ownBlock with
    | none => exact .inl rfl
    | some b => exact .inr fun e => h.2.2 b e.symm hv
  · rcases hl with e | e
    · exact h.2.2 b (e.symm.trans hb) hc
    · rw [e] at hb
      have h1 := (h.2.1.lt b hc).2
      have h2 : (w.alloc o).heap.size = b := by simpa using hb
      rw [World.size_alloc] at h2
      omega
/-- what is in one list alone, of its first k elements -/
def outK (A B : List Int) (k : Nat) : List Int := (A.take k).filter fun x => !decide (x ∈ B)
theorem outK_yes {A B : List Int} {k : Nat} {x : Int} (h : A[k]? = some x) (hb : x ∉ B) : outK A B (k + 1) = outK A B k ++ [x] := by
  unfold outK; rw [List.take_add_one, h, List.filter_append]; simp [hb]
theorem outK_no {A B : List Int} {k : Nat} {x : Int} (h : A[k]? = some x) (hb : x ∈ B) : outK A B (k + 1) = outK A B k := by
  unfold outK; rw [List.take_add_one, h, List.filter_append]; simp [hb]
theorem outK_len (A B : List Int) (k : Nat) : (outK A B k).length ≤ k := by
  unfold outK
  have := List.length_filter_le (fun x => !decide (x ∈ B)) (A.take k)
  rw [List.length_take] at this
  omega
theorem outK_all {a b : Nat} : outK (ndN a) (ndN b) (ndN a).length = nw (difB a b) 8 := by
  unfold outK ndN nw
  rw [List.take_length, List.filter_map, List.filter_filter]
  congr 1
  apply List.filter_congr
  intro y hy
  have hy8 := List.mem_range.1 hy
  unfold difB
  rw [Bool.and_comm]
  congr 1
  show (!decide ((y : Int) ∈ _)) = _
  congr 1
  rw [Bool.eq_iff_iff, decide_eq_true_iff, List.mem_map]
  constructor
  · rintro ⟨z, hz, e⟩
    have : z = y := by omega
    subst this
    exact (List.mem_filter.1 hz).2
  · intro h
    exact ⟨y, List.mem_filter.2 ⟨hy, h⟩, rfl⟩
theorem nw_dif (a b : Nat) : nw (difB a b) 8 = ndN (difN a b) := by unfold ndN difN; rw [nodes_num (Nat.le_refl 8)]
theorem nw_dif_n {n a b : Nat} (hn : n ≤ 8) (ha : a < 2 ^ n) : nw (difB a b) n = nw (difB a b) 8 := by
  refine (nw_more hn fun k h1 _ => ?_).symm
  unfold difB bitB
  rw [Nat.testBit_lt_two_pow (Nat.lt_of_lt_of_le ha (Nat.pow_le_pow_right (by decide) h1)), Bool.false_and]
theorem lsN_nodup (c : Nat) : (lsN c).Nodup := List.Nodup.sublist List.filter_sublist List.nodup_range
theorem eq1L (y : Nat) : (((y : Nat) : Int) == 1) = (y == 1) := by
  rw [Bool.eq_iff_iff, beq_iff_eq, beq_iff_eq]; omega
set_option maxHeartbeats 8000000 in
set_option maxRecDepth 100000 in
theorem l10Moves_any (n a b : Nat) (all : Bool) (v uf ut : Value) (l : List Ed) (w : World) (h : Edges w v l) (hl : l.length ≤ 1048576) (hu1 : Ints w uf (ndN a)) (hu2 : Ints w ut (ndN b)) (hg : P2.Good (n : Int) l) (hn : n ≤ 8) (ha : a < 2 ^ n) (hb : b < 2 ^ n) (hab : onesN a = onesN b) :
    Calls Tryd.prog 37 #[.agg #[.int .i64 (n : Int), v], uf, ut, .bool all] w fun e w' => e = .returned (.bool (mvB l all a b)) ∧ Below w.heap.size w w' := by
  obtain ⟨A, c, rfl, -⟩ := h.form
  have H := Lib.hid h
  have HU1 := Lib.hid hu1
  have HU2 := Lib.hid hu2
  have HB0 : Hid (Below w.heap.size w (w.alloc (.cells #[.int .i64 (n : Int), .slice A l.length c] 29))) := (Below.refl _ _).alloc (Nat.le_refl _) _
  have HG0 := Lib.hid (Blk.new w 29 #[.int .i64 (n : Int), .slice A l.length c])
  obtain ⟨p0, p1, -, -⟩ := HG0.out.two
  cases all with
  | true =>
    have HM : Hid (∀ (tv : Value) (W : World), Below w.heap.size w W → Ints W tv [] → Calls Tryd.prog 75 #[.agg #[.int .i64 (n : Int), .slice A l.length c], uf, ut, .int .i64 0, tv] W fun e w' => e = .returned (.bool (mvB l true a b)) ∧ Below W.heap.size W w') := fun tv W hW htv =>
      l10Matches_any n l (lsN a) (lsN b) (.slice A l.length c) uf ut hg hn hl (by rw [lsN_len]; exact ones_le _) (fun y hy => (lsN_mem hn ha hy).1) (by rw [lsN_len]; exact ones_le _) (fun y hy => (lsN_mem hn hb hy).1) (lsN_nodup b) (lsN a) 0 rfl (Nat.zero_le _) [] 0 tv W (by decide) (H.out.below hW) (HU1.out.below hW) (HU2.out.below hW) htv (Nat.le_refl _) (fun i y _ => by simp)
    have HO1 := Lib.hid (own_new0 (w.alloc (.cells #[.int .i64 (n : Int), .slice A l.length c] 29)) 3 1)
    have HB1 : Hid (Below w.heap.size w ((w.alloc (.cells #[.int .i64 (n : Int), .slice A l.length c] 29)).alloc (.cells #[] 3))) := HB0.out.alloc HB0.out.size _
    have HM1 := Lib.hid (HM.out _ _ HB1.out (show Ints _ _ [] from Reads.of_own HO1.out))
    rw [World.size_alloc] at HM1
    clear h hu1 hu2 hg HO1
    go_enter Tryd.func37, Tryd.ntmps37
    go_wp2_with fail
    refine HM1.out.mono ?_
    rintro e w1 ⟨rfl, b1⟩
    go_wp2_with fail
    go_ret
    exact ⟨rfl, btrans HB1.out b1⟩
  | false =>
    have hxl : (ndN a).length ≤ 8 := ones_le a
    have HXE : Hid ((ndN a).length = (ndN b).length) := hab
    have HAB : Hid (outK (ndN a) (ndN b) (ndN a).length = ndN (difN a b) ∧ outK (ndN b) (ndN a) (ndN a).length = ndN (difN b a)) := ⟨by rw [outK_all, nw_dif], by rw [HXE.out, outK_all, nw_dif]⟩
    have HSM := Lib.hid (dif_same hab)
    have HMV : Hid (onesN (difN a b) = 1 → mvB l false a b = adj l (strip.hd (ndN (difN a b))) (strip.hd (ndN (difN b a)))) := fun h1 => by
      have h_ := mvOne_is hg hn ha hb h1 (by rw [← HSM.out]; exact h1)
      rw [nw_dif_n hn ha, nw_dif_n hn hb, nw_dif, nw_dif] at h_
      exact h_
    have HMN : Hid (onesN (difN a b) ≠ 1 → mvB l false a b = false) := fun h1 => by
      show mvOne l a b = false
      unfold mvOne
      rw [beq_eq_false_iff_ne.2 h1]; rfl
    have HHS := Lib.hid (fun (u : Value) (xs : List Int) (x : Int) (W : World) (hu : Ints W u xs) (hx : xs.length ≤ 8) => l1Has_any u xs x W hu (by omega))
    have HNR := Lib.hid (fun (x y : Int) (W : World) (hW : Below w.heap.size w W) => l2Near_any (n : Int) x y (.slice A l.length c) l W (H.out.below hW) hl)
    obtain ⟨A1, c1, rfl, hc1⟩ := hu1.form
    obtain ⟨A2, c2, rfl, hc2⟩ := hu2.form
    have HC1 := Lib.hid hc1
    have HC2 := Lib.hid hc2
    have HT0 : Hid (Two (((w.alloc (.cells #[.int .i64 (n : Int), .slice A l.length c] 29)).alloc (.cells #[] 3)).alloc (.cells #[] 3)) w.heap.size (.slice (some ⟨w.heap.size + 1, 0, none⟩) 0 0) (.slice (some ⟨w.heap.size + 2, 0, none⟩) 0 0) [] []) := by
      have h1 := own_new0 (w.alloc (.cells #[.int .i64 (n : Int), .slice A l.length c] 29)) 3 1
      have h2 := own_new0 ((w.alloc (.cells #[.int .i64 (n : Int), .slice A l.length c] 29)).alloc (.cells #[] 3)) 3 1
      rw [World.size_alloc] at h1
      rw [World.size_alloc, World.size_alloc] at h2
      exact ⟨own_base (h1.alloc _) (by omega), own_base h2 (by omega), fun b hb hc => by simp [Value.ownBlock] at hb hc; omega⟩
    have HB2 : Hid (Below w.heap.size w (((w.alloc (.cells #[.int .i64 (n : Int), .slice A l.length c] 29)).alloc (.cells #[] 3)).alloc (.cells #[] 3))) := (HB0.out.alloc HB0.out.size _).alloc (by simp; omega) _
    have HG2 := Lib.hid ((HG0.out.alloc (.cells #[] 3)).alloc (.cells #[] 3))
    obtain ⟨i0, hi, hz0, hz1, hz2⟩ := info_parts infoInt
    have hyl : (ndN b).length ≤ 8 := ones_le b
    clear h hu1 hu2 hc1 hc2 hg ha hb hab p0 p1 HB0 HG0
    have HON : Hid (onesN (difN a b) = (ndN (difN a b)).length ∧ onesN (difN b a) = (ndN (difN b a)).length) := ⟨rfl, rfl⟩
    rw [HON.out.1] at HMV HMN
    rw [HON.out.1, HON.out.2] at HSM
    clear HON
    generalize ndN (difN a b) = GA at *
    generalize ndN (difN b a) = GB at *
    generalize mvB l false a b = res at *
    generalize ndN a = XA at *
    generalize ndN b = XB at *
    have hxe : (XA.length : Int) = (XB.length : Int) := by rw [HXE.out]
    have HXE2 := Lib.hid hxe
    clear hxe
    go_enter Tryd.func37, Tryd.ntmps37
    go_wp2_with fail
    go_loopg [9, 10, 11] XA.length (fun g gv cv iv wr => ∃ (k : Nat) (gw cw : Value), gw = gv ∧ cw = cv ∧ k + g = XA.length ∧ iv = .int .i64 (k : Int) ∧ Two wr w.heap.size gw cw (outK XA XB k) (outK XB XA k) ∧ Blk wr w.heap.size 29 #[.int .i64 (n : Int), .slice A l.length c] ∧ Below w.heap.size w wr)
    case atStart => exact ⟨0, _, _, rfl, rfl, by omega, rfl, HT0.out, HG2.out, HB2.out⟩
    case round =>
      clear HT0 HG2 HB2
      obtain ⟨k, gw, cw, rfl, rfl, hkg, rfl, htw, hgb, hB⟩ := hrel
      obtain ⟨Ag, cg, rfl⟩ := own_form htw.1
      obtain ⟨Ac, cc, rfl⟩ := own_form htw.2.1
      obtain ⟨p0, p1, -, -⟩ := hgb.two
      have HB := Lib.hid hB
      have HG := Lib.hid hgb
      have HT := Lib.hid htw
      cases gk with
      | zero =>
        obtain rfl : k = XA.length := by omega
        rw [HAB.out.1, HAB.out.2] at HT
        rw [HAB.out.1, HAB.out.2]
        clear htw hgb hB
        by_cases h1 : GA.length = 1
        · obtain ⟨x, hx⟩ : ∃ x, GA = [x] := ⟨_, one_list h1⟩
          obtain ⟨y, hy⟩ : ∃ y, GB = [y] := ⟨_, one_list (by rw [← HSM.out]; exact h1)⟩
          have HV : Hid (res = adj l x y) := by
            have h_ := HMV.out h1
            rw [hx, hy] at h_
            exact h_
          subst hx hy
          obtain ⟨gg, hgg, cg0, -, -⟩ := own_at (i := 0) HT.out.1 rfl
          obtain ⟨gc, hgc, cc0, -, -⟩ := own_at (i := 0) HT.out.2.1 rfl
          subst hgg hgc
          have HN1 := Lib.hid (HNR.out x y wr.drew HB.out.drew)
          rw [show [x].length = 1 from rfl, show [y].length = 1 from rfl]
          clear h1 HMV HMN HSM
          go_wp2_with fail
          refine wp_region_held_drew (S := (fun w' : World => w'.cell? ⟨w.heap.size, 0, none⟩ = some (.int .i64 (n : Int)) ∧ w'.cell? ⟨w.heap.size, 1, none⟩ = some (.slice A l.length c) ∧ w'.cell? ⟨gg, 0, none⟩ = some (.int .i64 x) ∧ w'.cell? ⟨gc, 0, none⟩ = some (.int .i64 y))) (by kernel_rfl) (by (try dsimp only); simp [*]) (fun hHeld => ?_)
          change wpAnyH _ _ _ _ _ _ #[false, false, false, false, false, false, false, false, false, false, false, false, false, false] _ _
          refine wpAnyH_take (i := 0) (oi := ⟨some 54, _, _, _, _, _⟩) (v := ?_) rfl (by kernel_rfl) (by kernel_rfl) (by kernel_rfl) (fun _ _ _ h => h) (Or.inl ⟨by rfl, ?_⟩) (by assumption) ?_
          rotate_left
          · (intro w hSw; (try dsimp only at hSw); go_simp; (try (with_reducible rfl)))
          try simp only [Act.put, List.setIfInBounds_toArray, List.set_cons_zero, List.set_cons_succ]
          refine wpAnyH_take (i := 1) (oi := ⟨some 55, _, _, _, _, _⟩) (v := ?_) rfl (by kernel_rfl) (by kernel_rfl) (by kernel_rfl) (fun _ _ _ h => h) (Or.inl ⟨by rfl, ?_⟩) (by assumption) ?_
          rotate_left
          · (intro w hSw; (try dsimp only at hSw); go_simp; (try (with_reducible rfl)))
          try simp only [Act.put, List.setIfInBounds_toArray, List.set_cons_zero, List.set_cons_succ]
          refine wpAnyH_take (i := 2) (oi := ⟨some 56, _, _, _, _, _⟩) (v := ?_) rfl (by kernel_rfl) (by kernel_rfl) (by kernel_rfl) (fun _ _ _ h => h) (Or.inl ⟨by rfl, ?_⟩) (by assumption) ?_
          rotate_left
          · (intro w hSw; (try dsimp only at hSw); go_simp; (try (with_reducible rfl)))
          try simp only [Act.put, List.setIfInBounds_toArray, List.set_cons_zero, List.set_cons_succ]
          refine wpAnyH_take (i := 3) (oi := ⟨some 57, _, _, _, _, _⟩) (v := ?_) rfl (by kernel_rfl) (by kernel_rfl) (by kernel_rfl) (fun _ _ _ h => h) (Or.inl ⟨by rfl, ?_⟩) (by assumption) ?_
          rotate_left
          · (intro w hSw; (try dsimp only at hSw); go_simp; (try (with_reducible rfl)))
          try simp only [Act.put, List.setIfInBounds_toArray, List.set_cons_zero, List.set_cons_succ]
          refine wpAnyH_take (i := 4) (oi := ⟨some 58, _, _, _, _, _⟩) (v := ?_) rfl (by kernel_rfl) (by kernel_rfl) (by kernel_rfl) (fun _ _ _ h => h) (Or.inl ⟨by rfl, ?_⟩) (by assumption) ?_
          rotate_left
          · (intro w hSw; (try dsimp only at hSw); go_simp; (try (with_reducible rfl)))
          try simp only [Act.put, List.setIfInBounds_toArray, List.set_cons_zero, List.set_cons_succ]
          refine wpAnyH_take (i := 5) (oi := ⟨some 59, _, _, _, _, _⟩) (v := ?_) rfl (by kernel_rfl) (by kernel_rfl) (by kernel_rfl) (fun _ _ _ h => h) (Or.inl ⟨by rfl, ?_⟩) (by assumption) ?_
          rotate_left
          · (intro w hSw; (try dsimp only at hSw); go_simp; (try (with_reducible rfl)))
          try simp only [Act.put, List.setIfInBounds_toArray, List.set_cons_zero, List.set_cons_succ]
          refine wpAnyH_take (i := 6) (oi := ⟨some 60, _, _, _, _, _⟩) (v := ?_) rfl (by kernel_rfl) (by kernel_rfl) (by kernel_rfl) (fun _ _ _ h => h) (Or.inl ⟨by rfl, ?_⟩) (by assumption) ?_
          rotate_left
          · (intro w hSw; (try dsimp only at hSw); go_simp; (try (with_reducible rfl)))
          try simp only [Act.put, List.setIfInBounds_toArray, List.set_cons_zero, List.set_cons_succ]
          refine wpAnyH_take (i := 7) (oi := ⟨some 61, _, _, _, _, _⟩) (v := ?_) rfl (by kernel_rfl) (by kernel_rfl) (by kernel_rfl) (fun _ _ _ h => h) (Or.inl ⟨by rfl, ?_⟩) (by assumption) ?_
          rotate_left
          · (intro w hSw; (try dsimp only at hSw); go_simp; (try (with_reducible rfl)))
          try simp only [Act.put, List.setIfInBounds_toArray, List.set_cons_zero, List.set_cons_succ]
          refine wpAnyH_take (i := 8) (oi := ⟨some 62, _, _, _, _, _⟩) (v := ?_) rfl (by kernel_rfl) (by kernel_rfl) (by kernel_rfl) (fun _ _ _ h => h) (Or.inl ⟨by rfl, ?_⟩) (by assumption) ?_
          rotate_left
          · (intro w hSw; (try dsimp only at hSw); go_simp; (try (with_reducible rfl)))
          try simp only [Act.put, List.setIfInBounds_toArray, List.set_cons_zero, List.set_cons_succ]
          refine wpAnyH_take (i := 9) (oi := ⟨some 63, _, _, _, _, _⟩) (v := ?_) rfl (by kernel_rfl) (by kernel_rfl) (by kernel_rfl) (fun _ _ _ h => h) (Or.inl ⟨by rfl, ?_⟩) (by assumption) ?_
          rotate_left
          · (intro w hSw; (try dsimp only at hSw); go_simp; (try (with_reducible rfl)))
          try simp only [Act.put, List.setIfInBounds_toArray, List.set_cons_zero, List.set_cons_succ]
          refine wpAnyH_take (i := 10) (oi := ⟨some 64, _, _, _, _, _⟩) (v := ?_) rfl (by kernel_rfl) (by kernel_rfl) (by kernel_rfl) (fun _ _ _ h => h) (Or.inl ⟨by rfl, ?_⟩) (by assumption) ?_
          rotate_left
          · (intro w hSw; (try dsimp only at hSw); go_simp; (try (with_reducible rfl)))
          try simp only [Act.put, List.setIfInBounds_toArray, List.set_cons_zero, List.set_cons_succ]
          refine wpAnyH_ready (rs := [11]) (by kernel_rfl) (by simp) ?_
          refine AllReadyH.cons (o := ⟨some 65, _, _, _, _, _⟩) rfl (fun K hK => ?_) AllReadyH.nil
          go_simp
          (with_reducible refine HN1.out.mono ?_); rintro e w4 ⟨rfl, b4⟩; have d4 : Below wr.heap.size wr w4 := btrans (Below.refl _ _).drew b4; obtain ⟨k0, k1, -, -⟩ := (HG.out.below d4 HG.out.lt).two; have k2 := nearv.cell_keep cg0 d4; have k3 := nearv.cell_keep cc0 d4
          go_wp2_with fail
          refine hK.out _ _ (by (try dsimp only); simp [*]) (fun hHeld => ?_)
          clear hK K
          try simp only [List.setIfInBounds_toArray, List.set_cons_zero, List.set_cons_succ]
          refine wpAnyH_take (i := 12) (oi := ⟨some 66, _, _, _, _, _⟩) (v := ?_) rfl (by kernel_rfl) (by kernel_rfl) (by kernel_rfl) (fun _ _ _ h => h) (Or.inl ⟨by rfl, ?_⟩) (by assumption) ?_
          rotate_left
          · (intro w hSw; (try dsimp only at hSw); go_simp; (try (with_reducible rfl)))
          try simp only [Act.put, List.setIfInBounds_toArray, List.set_cons_zero, List.set_cons_succ]
          refine wpAnyH_take (i := 13) (oi := ⟨some 8, _, _, _, _, _⟩) (v := ?_) rfl (by kernel_rfl) (by kernel_rfl) (by kernel_rfl) (fun _ _ _ h => h) (Or.inl ⟨by rfl, ?_⟩) (by assumption) ?_
          rotate_left
          · (intro w hSw; (try dsimp only at hSw); go_simp; (try (with_reducible rfl)))
          try simp only [Act.put, List.setIfInBounds_toArray, List.set_cons_zero, List.set_cons_succ]
          refine wpAnyH_done (by kernel_rfl) ?_ _
          go_wp2_with fail
          go_ret
          rw [HV.out]
          exact ⟨rfl, btrans HB.out d4⟩
        · have HV := Lib.hid (HMN.out h1)
          have hq1 : ((GA.length : Int) == 1) = false := by rw [beq_eq_false_iff_ne]; omega
          have hq2 : (GA.length == 1) = false := by rw [beq_eq_false_iff_ne]; exact h1
          clear h1 HMV HMN HSM
          go_wp2_with fail
          refine wp_region_held_drew (S := (fun w' : World => w'.cell? ⟨w.heap.size, 0, none⟩ = some (.int .i64 (n : Int)) ∧ w'.cell? ⟨w.heap.size, 1, none⟩ = some (.slice A l.length c))) (by kernel_rfl) (by (try dsimp only); simp [*]) (fun hHeld => ?_)
          change wpAnyH _ _ _ _ _ _ #[false, false, false, false, false, false, false, false, false, false, false, false, false, false] _ _
          refine wpAnyH_take (i := 0) (oi := ⟨some 54, _, _, _, _, _⟩) (v := ?_) rfl (by kernel_rfl) (by kernel_rfl) (by kernel_rfl) (fun _ _ _ h => h) (Or.inl ⟨by rfl, ?_⟩) (by assumption) ?_
          rotate_left
          · (intro w hSw; (try dsimp only at hSw); go_simp; (try (with_reducible rfl)))
          try simp only [Act.put, List.setIfInBounds_toArray, List.set_cons_zero, List.set_cons_succ]
          refine wpAnyH_take (i := 1) (oi := ⟨some 55, _, _, _, _, _⟩) (v := ?_) rfl (by kernel_rfl) (by kernel_rfl) (by kernel_rfl) (fun _ _ _ h => h) (Or.inl ⟨by rfl, ?_⟩) (by assumption) ?_
          rotate_left
          · (intro w hSw; (try dsimp only at hSw); go_simp; (try (with_reducible rfl)))
          try simp only [Act.put, List.setIfInBounds_toArray, List.set_cons_zero, List.set_cons_succ]
          refine wpAnyH_take (i := 2) (oi := ⟨some 56, _, _, _, _, _⟩) (v := ?_) rfl (by kernel_rfl) (by kernel_rfl) (by kernel_rfl) (fun _ _ _ h => h) (Or.inl ⟨by rfl, ?_⟩) (by assumption) ?_
          rotate_left
          · (intro w hSw; (try dsimp only at hSw); go_simp; (try (with_reducible rfl)))
          try simp only [Act.put, List.setIfInBounds_toArray, List.set_cons_zero, List.set_cons_succ]
          refine wpAnyH_take (i := 3) (oi := ⟨some 57, _, _, _, _, _⟩) (v := ?_) rfl (by kernel_rfl) (by kernel_rfl) (by kernel_rfl) (fun _ _ _ h => h) (Or.inl ⟨by rfl, ?_⟩) (by assumption) ?_
          rotate_left
          · (intro w hSw; (try dsimp only at hSw); go_simp; (try (with_reducible rfl)))
          try simp only [Act.put, List.setIfInBounds_toArray, List.set_cons_zero, List.set_cons_succ]
          refine wpAnyH_take (i := 4) (oi := ⟨some 58, _, _, _, _, _⟩) (v := undef) rfl (by kernel_rfl) (by kernel_rfl) (by kernel_rfl) (fun _ _ _ h => h) (Or.inr ⟨by rfl, rfl⟩) (by assumption) ?_
          try simp only [Act.put, List.setIfInBounds_toArray, List.set_cons_zero, List.set_cons_succ]
          refine wpAnyH_take (i := 5) (oi := ⟨some 59, _, _, _, _, _⟩) (v := undef) rfl (by kernel_rfl) (by kernel_rfl) (by kernel_rfl) (fun _ _ _ h => h) (Or.inr ⟨by rfl, rfl⟩) (by assumption) ?_
          try simp only [Act.put, List.setIfInBounds_toArray, List.set_cons_zero, List.set_cons_succ]
          refine wpAnyH_take (i := 6) (oi := ⟨some 60, _, _, _, _, _⟩) (v := undef) rfl (by kernel_rfl) (by kernel_rfl) (by kernel_rfl) (fun _ _ _ h => h) (Or.inr ⟨by rfl, rfl⟩) (by assumption) ?_
          try simp only [Act.put, List.setIfInBounds_toArray, List.set_cons_zero, List.set_cons_succ]
          refine wpAnyH_take (i := 7) (oi := ⟨some 61, _, _, _, _, _⟩) (v := undef) rfl (by kernel_rfl) (by kernel_rfl) (by kernel_rfl) (fun _ _ _ h => h) (Or.inr ⟨by rfl, rfl⟩) (by assumption) ?_
          try simp only [Act.put, List.setIfInBounds_toArray, List.set_cons_zero, List.set_cons_succ]
          refine wpAnyH_take (i := 8) (oi := ⟨some 62, _, _, _, _, _⟩) (v := undef) rfl (by kernel_rfl) (by kernel_rfl) (by kernel_rfl) (fun _ _ _ h => h) (Or.inr ⟨by rfl, rfl⟩) (by assumption) ?_
          try simp only [Act.put, List.setIfInBounds_toArray, List.set_cons_zero, List.set_cons_succ]
          refine wpAnyH_take (i := 9) (oi := ⟨some 63, _, _, _, _, _⟩) (v := undef) rfl (by kernel_rfl) (by kernel_rfl) (by kernel_rfl) (fun _ _ _ h => h) (Or.inr ⟨by rfl, rfl⟩) (by assumption) ?_
          try simp only [Act.put, List.setIfInBounds_toArray, List.set_cons_zero, List.set_cons_succ]
          refine wpAnyH_take (i := 10) (oi := ⟨some 64, _, _, _, _, _⟩) (v := undef) rfl (by kernel_rfl) (by kernel_rfl) (by kernel_rfl) (fun _ _ _ h => h) (Or.inr ⟨by rfl, rfl⟩) (by assumption) ?_
          try simp only [Act.put, List.setIfInBounds_toArray, List.set_cons_zero, List.set_cons_succ]
          refine wpAnyH_take (i := 11) (oi := ⟨some 65, _, _, _, _, _⟩) (v := undef) rfl (by kernel_rfl) (by kernel_rfl) (by kernel_rfl) (fun _ _ _ h => h) (Or.inr ⟨by rfl, rfl⟩) (by assumption) ?_
          try simp only [Act.put, List.setIfInBounds_toArray, List.set_cons_zero, List.set_cons_succ]
          refine wpAnyH_take (i := 12) (oi := ⟨some 66, _, _, _, _, _⟩) (v := ?_) rfl (by kernel_rfl) (by kernel_rfl) (by kernel_rfl) (fun _ _ _ h => h) (Or.inl ⟨by rfl, ?_⟩) (by assumption) ?_
          rotate_left
          · (intro w hSw; (try dsimp only at hSw); go_simp; (try (with_reducible rfl)))
          try simp only [Act.put, List.setIfInBounds_toArray, List.set_cons_zero, List.set_cons_succ]
          refine wpAnyH_take (i := 13) (oi := ⟨some 8, _, _, _, _, _⟩) (v := ?_) rfl (by kernel_rfl) (by kernel_rfl) (by kernel_rfl) (fun _ _ _ h => h) (Or.inl ⟨by rfl, ?_⟩) (by assumption) ?_
          rotate_left
          · (intro w hSw; (try dsimp only at hSw); go_simp; (try (with_reducible rfl)))
          try simp only [Act.put, List.setIfInBounds_toArray, List.set_cons_zero, List.set_cons_succ]
          refine wpAnyH_done (by kernel_rfl) ?_ _
          go_wp2_with fail
          go_ret
          rw [HV.out]
          exact ⟨rfl, HB.out.drew⟩
      | succ g2 =>
        have hlt : k < XA.length := by omega
        have hlt' : (k : Int) < (XA.length : Int) := by omega
        have hltb : (k : Int) < (XB.length : Int) := by rw [← HXE2.out]; exact hlt'
        obtain ⟨x, hx⟩ : ∃ x, XA[k]? = some x := ⟨_, List.getElem?_eq_getElem hlt⟩
        obtain ⟨y, hy⟩ : ∃ y, XB[k]? = some y := ⟨_, List.getElem?_eq_getElem (by omega)⟩
        obtain ⟨g1, o1, rfl, qa⟩ := HC1.out k x hx
        obtain ⟨g2_, o2, rfl, qb⟩ := HC2.out k y hy
        have QA := Lib.hid qa
        have QB := Lib.hid qb
        have ra := nearv.cell_keep qa hB
        have rb := nearv.cell_keep qb hB
        have hszHB := hB.size
        have hla := outK_len XA XB k
        have hlb := outK_len XB XA k
        clear qa qb
        have HH1 := Lib.hid (fun (W : World) (hW : Below w.heap.size w W) => HHS.out _ XB x W (HU2.out.below hW) hyl)
        have HH2 := Lib.hid (fun (W : World) (hW : Below w.heap.size w W) => HHS.out _ XA y W (HU1.out.below hW) hxl)
        by_cases hx1 : x ∈ XB
        · by_cases hy1 : y ∈ XA
          · have KA := Lib.hid (outK_no (A := XA) (B := XB) hx hx1)
            have KB := Lib.hid (outK_no (A := XB) (B := XA) hy hy1)
            rw [decide_eq_true hx1] at HH1
            rw [decide_eq_true hy1] at HH2
            clear hx hy hx1 hy1 htw hgb hB
            generalize hLA : outK XA XB k = LA at *
            generalize hLB : outK XB XA k = LB at *
            clear hLA hLB
            go_wp2_with fail
            refine (HH1.out wr HB.out).mono ?_
            rintro e w' ⟨rfl, rfl⟩
            go_wp2_with fail
            refine (HH2.out wr HB.out).mono ?_
            rintro e w' ⟨rfl, rfl⟩
            go_wp2_with fail
            go_roundg g2
            case measure => omega
            case rel => exact ⟨k + 1, _, _, rfl, rfl, by omega, by go_num, by rw [KA.out, KB.out]; exact HT.out, HG.out, HB.out⟩
          · have KA := Lib.hid (outK_no (A := XA) (B := XB) hx hx1)
            have KB := Lib.hid (outK_yes (A := XB) (B := XA) hy hy1)
            rw [decide_eq_true hx1] at HH1
            rw [decide_eq_false hy1] at HH2
            clear hx hy hx1 hy1 htw hgb hB
            generalize hLA : outK XA XB k = LA at *
            generalize hLB : outK XB XA k = LB at *
            clear hLA hLB
            go_wp2_with fail
            refine (HH1.out wr HB.out).mono ?_
            rintro e w' ⟨rfl, rfl⟩
            go_wp2_with fail
            refine (HH2.out wr HB.out).mono ?_
            rintro e w' ⟨rfl, rfl⟩
            go_wp2_with ((at_builtin; refine wpList_append_own_at _ rfl _ _ 25 rfl (w.heap.size) 3 i0 (.int .i64 0) 1 8 Tryd.underlying25 hi hz0 hz1 hz2 rfl (by decide) _ _ _ rfl ((HT.out.swap).1.alloc _) ⟨wr.heap.size, 0, none⟩ 1 1 [.int .i64 (y)] rfl rfl (cell_one_new _ _ _) (fun x hx => by simp at hx; subst hx; rfl) (by unfold maxLen; omega) (by omega) (by simp; omega) ?_; intro v2 w2 hown2 hgrow2 _ hl2); have hnb := HT.out.swap.push hown2 hgrow2 hl2; have HTb := Lib.hid (hnb.swap); have HBb := Lib.hid ((HB.out.alloc hszHB (.cells #[.int .i64 y] 3)).grown hgrow2 (by simp; omega) (fun p_ hp_ => ((HT.out.swap).1.lt p_ hp_).1)); have HGb := Lib.hid (mids.grown_blk (w := wr) (HT.out.swap).1 HG.out (by decide) hgrow2); have hszHBb := HBb.out.size; have rab := nearv.cell_keep QA.out HBb.out; have rbb := nearv.cell_keep QB.out HBb.out; clear hown2 hgrow2 hl2 hnb; obtain ⟨Ab_, cb_, rfl⟩ := own_form HTb.out.2.1)
            go_roundg g2
            case measure => omega
            case rel => exact ⟨k + 1, _, _, rfl, rfl, by omega, by go_num, by rw [KA.out, KB.out]; have h_ := HTb.out; (try simp only [List.length_append, List.length_singleton] at h_); exact h_, HGb.out, HBb.out⟩
        · by_cases hy1 : y ∈ XA
          · have KA := Lib.hid (outK_yes (A := XA) (B := XB) hx hx1)
            have KB := Lib.hid (outK_no (A := XB) (B := XA) hy hy1)
            rw [decide_eq_false hx1] at HH1
            rw [decide_eq_true hy1] at HH2
            clear hx hy hx1 hy1 htw hgb hB
            generalize hLA : outK XA XB k = LA at *
            generalize hLB : outK XB XA k = LB at *
            clear hLA hLB
            go_wp2_with fail
            refine (HH1.out wr HB.out).mono ?_
            rintro e w' ⟨rfl, rfl⟩
            go_wp2_with ((at_builtin; refine wpList_append_own_at _ rfl _ _ 25 rfl (w.heap.size) 3 i0 (.int .i64 0) 1 8 Tryd.underlying25 hi hz0 hz1 hz2 rfl (by decide) _ _ _ rfl ((HT.out).1.alloc _) ⟨wr.heap.size, 0, none⟩ 1 1 [.int .i64 (x)] rfl rfl (cell_one_new _ _ _) (fun x hx => by simp at hx; subst hx; rfl) (by unfold maxLen; omega) (by omega) (by simp; omega) ?_; intro v2 w2 hown2 hgrow2 _ hl2); have hna := HT.out.push hown2 hgrow2 hl2; have HTa := Lib.hid hna; have HBa := Lib.hid ((HB.out.alloc hszHB (.cells #[.int .i64 x] 3)).grown hgrow2 (by simp; omega) (fun p_ hp_ => ((HT.out).1.lt p_ hp_).1)); have HGa := Lib.hid (mids.grown_blk (w := wr) (HT.out).1 HG.out (by decide) hgrow2); have hszHBa := HBa.out.size; have raa := nearv.cell_keep QA.out HBa.out; have rba := nearv.cell_keep QB.out HBa.out; clear hown2 hgrow2 hl2 hna; obtain ⟨Aa_, ca_, rfl⟩ := own_form HTa.out.1)
            refine (HH2.out w2 HBa.out).mono ?_
            rintro e w' ⟨rfl, rfl⟩
            go_wp2_with fail
            go_roundg g2
            case measure => omega
            case rel => exact ⟨k + 1, _, _, rfl, rfl, by omega, by go_num, by rw [KA.out, KB.out]; have h_ := HTa.out; (try simp only [List.length_append, List.length_singleton] at h_); exact h_, HGa.out, HBa.out⟩
          · have KA := Lib.hid (outK_yes (A := XA) (B := XB) hx hx1)
            have KB := Lib.hid (outK_yes (A := XB) (B := XA) hy hy1)
            rw [decide_eq_false hx1] at HH1
            rw [decide_eq_false hy1] at HH2
            clear hx hy hx1 hy1 htw hgb hB
            generalize hLA : outK XA XB k = LA at *
            generalize hLB : outK XB XA k = LB at *
            clear hLA hLB
            go_wp2_with fail
            refine (HH1.out wr HB.out).mono ?_
            rintro e w' ⟨rfl, rfl⟩
            go_wp2_with ((at_builtin; refine wpList_append_own_at _ rfl _ _ 25 rfl (w.heap.size) 3 i0 (.int .i64 0) 1 8 Tryd.underlying25 hi hz0 hz1 hz2 rfl (by decide) _ _ _ rfl ((HT.out).1.alloc _) ⟨wr.heap.size, 0, none⟩ 1 1 [.int .i64 (x)] rfl rfl (cell_one_new _ _ _) (fun x hx => by simp at hx; subst hx; rfl) (by unfold maxLen; omega) (by omega) (by simp; omega) ?_; intro v2 w2 hown2 hgrow2 _ hl2); have hna := HT.out.push hown2 hgrow2 hl2; have HTa := Lib.hid hna; have HBa := Lib.hid ((HB.out.alloc hszHB (.cells #[.int .i64 x] 3)).grown hgrow2 (by simp; omega) (fun p_ hp_ => ((HT.out).1.lt p_ hp_).1)); have HGa := Lib.hid (mids.grown_blk (w := wr) (HT.out).1 HG.out (by decide) hgrow2); have hszHBa := HBa.out.size; have raa := nearv.cell_keep QA.out HBa.out; have rba := nearv.cell_keep QB.out HBa.out; clear hown2 hgrow2 hl2 hna; obtain ⟨Aa_, ca_, rfl⟩ := own_form HTa.out.1)
            refine (HH2.out w2 HBa.out).mono ?_
            rintro e w' ⟨rfl, rfl⟩
            obtain ⟨w3, hw3⟩ : ∃ w3, w3 = w2 := ⟨_, rfl⟩
            subst hw3
            go_wp2_with ((at_builtin; refine wpList_append_own_at _ rfl _ _ 25 rfl (w.heap.size) 3 i0 (.int .i64 0) 1 8 Tryd.underlying25 hi hz0 hz1 hz2 rfl (by decide) _ _ _ rfl ((HTa.out.swap).1.alloc _) ⟨w3.heap.size, 0, none⟩ 1 1 [.int .i64 (y)] rfl rfl (cell_one_new _ _ _) (fun x hx => by simp at hx; subst hx; rfl) (by unfold maxLen; omega) (by omega) (by simp; omega) ?_; intro v2 w2 hown2 hgrow2 _ hl2); have hnb := HTa.out.swap.push hown2 hgrow2 hl2; have HTb := Lib.hid (hnb.swap); have HBb := Lib.hid ((HBa.out.alloc hszHBa (.cells #[.int .i64 y] 3)).grown hgrow2 (by simp; omega) (fun p_ hp_ => ((HTa.out.swap).1.lt p_ hp_).1)); have HGb := Lib.hid (mids.grown_blk (w := w3) (HTa.out.swap).1 HGa.out (by decide) hgrow2); have hszHBb := HBb.out.size; have rab := nearv.cell_keep QA.out HBb.out; have rbb := nearv.cell_keep QB.out HBb.out; clear hown2 hgrow2 hl2 hnb; obtain ⟨Ab_, cb_, rfl⟩ := own_form HTb.out.2.1)
            go_roundg g2
            case measure => omega
            case rel => exact ⟨k + 1, _, _, rfl, rfl, by omega, by go_num, by rw [KA.out, KB.out]; have h_ := HTb.out; (try simp only [List.length_append, List.length_singleton] at h_); exact h_, HGb.out, HBb.out⟩
end Go.Proofs.YthpodbhiopnnbaaDoor.ups

/- The contracts of math/bits.TrailingZeros and of the program's least, where the library's table is laid. -/
namespace Go.Proofs.YthpodbhiopnnbaaDoor.least
open Go.RowKit P2 words edges ints fns sets rets covs strip
set_option linter.unusedVariables false

/-- the table of math/bits in its variable -/
def Env (w : World) : Prop := TabAt 1 Lib.deBruijn64tab w
theorem Env.next {w w' : World} (h : Env w) (hb : Below w.heap.size w w') : Env w' := fun j hj =>
  (hb.cell (p := ⟨1, j, none⟩) (World.block_lt_of_cell? w (a := ⟨1, j, none⟩) (h j hj))).trans (h j hj)
set_option maxHeartbeats 1000000 in
theorem tz64_core (x k idx : Nat) (w : World) (hx0 : ((x : Int) == 0) = false)
    (key : IntKind.u64.wrap (bits BinOp.and IntKind.u64 (x : Int) (IntKind.u64.wrap (-(x : Int))) * 285870213051353865) / 288230376151711744 = (idx : Int))
    (hi : idx < 64) (hk : k < 64) (hcell : w.cell? ⟨1, idx, none⟩ = some (.int .u8 k)) :
    Calls Tryd.prog 119 #[.int .u64 x] w fun e w' => e = .returned (.int .i64 k) ∧ w = w' := by
  go_enter Tryd.func119, Tryd.ntmps119
  go_wp2_with (simp only [key])
  go_ret
  exact ⟨rfl, rfl⟩
theorem tz64_any (x : Nat) (hx : x < 18446744073709551616) (hx0 : x ≠ 0) (w : World) (hT : Env w) :
    Calls Tryd.prog 119 #[.int .u64 x] w fun e w' => e = .returned (.int .i64 (Lib.ctz 64 x : Nat)) ∧ w = w' := by
  obtain ⟨hlow, hk⟩ := Lib.lowest_bit 64 x hx0 hx
  obtain ⟨hi, htab⟩ := Lib.deBruijn64_at _ hk
  have hcell := hT _ hi
  rw [htab] at hcell
  exact tz64_core x _ _ w (by simp; omega) (tz64_key x _ hx hx0 hlow) hi hk hcell
theorem tz_any (x : Nat) (hx : x < 256) (hx0 : x ≠ 0) (w : World) (hT : Env w) :
    Calls Tryd.prog 112 #[.int .u64 x] w fun e w' => e = .returned (.int .i64 (Lib.ctz 64 x : Nat)) ∧ w = w' := by
  have HT := Lib.hid (tz64_any x (by omega) hx0 w hT)
  have hc : IntKind.u64.wrap (x : Int) = (x : Int) := by rw [IntKind.wrap_u64]; omega
  clear hT
  go_enter Tryd.func112, Tryd.ntmps112
  go_wp2_with fail
  refine HT.out.mono ?_
  rintro e w' ⟨rfl, rfl⟩
  go_wp2_with fail
  go_ret
  exact ⟨rfl, rfl⟩
theorem least_any (x : Nat) (hx : x < 256) (hx0 : x ≠ 0) (w : World) (hT : Env w) :
    Calls Tryd.prog 103 #[.int .u64 x] w fun e w' => e = .returned (.int .i64 (Lib.ctz 64 x : Nat)) ∧ w = w' := by
  have HT := Lib.hid (tz_any x hx hx0 w hT)
  have hc : IntKind.u64.wrap (x : Int) = (x : Int) := by rw [IntKind.wrap_u64]; omega
  clear hT
  go_enter Tryd.func103, Tryd.ntmps103
  go_wp2_with fail
  refine HT.out.mono ?_
  rintro e w' ⟨rfl, rfl⟩
  go_wp2_with fail
  go_ret
  exact ⟨rfl, rfl⟩
end Go.Proofs.YthpodbhiopnnbaaDoor.least

/- Guards: the contracts of the program's moveOne, moveAll and ruleOf. -/
namespace Go.Proofs.YthpodbhiopnnbaaDoor.ups
open Go.RowKit P2 words edges ints owns good adjs fns sets rets covs bags bitsI func lists least
set_option linter.unusedVariables false

theorem dif_walk {a b : Nat} (ha : a < 256) (hb : b < 256) : bits .andNot .u64 (a : Int) (b : Int) = (difN a b : Int) := by
  have h := andNot_num a (bitB b) 8 (by omega) (Nat.le_refl _) (difB a b) (fun z _ => by
    unfold difB bitB
    by_cases hz : z < 8
    · simp [hz]
    · rw [Nat.testBit_lt_two_pow (Nat.lt_of_lt_of_le ha (Nat.pow_le_pow_right (n := 2) (by decide) (show 8 ≤ z by omega)))]
      simp)
  rw [numb (n := 8) hb] at h
  exact h
/-- a function value that tells moves -/
structure FnMv (f : FuncId) (n : Nat) (l : List Ed) (all : Bool) : Prop where
  enter : ∀ (args : Array Value) (W : World), (callFunc f args).run Tryd.prog W = .ok (.enter f args) W
  call : ∀ (W : World) (v : Value) (a b : Nat), Nums W v (clos l n) → Env W → a < 2 ^ n → b < 2 ^ n → Calls Tryd.prog f #[v, .int .u64 (a : Int), .int .u64 (b : Int)] W fun e W' => e = .returned (.bool (mvB l all a b)) ∧ Below W.heap.size W W'
theorem bne0 (y : Nat) : (((y : Nat) : Int) != 0) = !(y == 0) := by
  show (!(((y : Nat) : Int) == 0)) = _
  congr 1
  rw [Bool.eq_iff_iff, beq_iff_eq, beq_iff_eq]; omega
theorem eq1 (y : Nat) : (((y : Nat) : Int) == 1) = (y == 1) := by
  rw [Bool.eq_iff_iff, beq_iff_eq, beq_iff_eq]; omega
set_option maxHeartbeats 1000000 in
set_option maxRecDepth 100000 in
theorem moveOne_any (n a b : Nat) (v : Value) (l : List Ed) (w : World) (h : Nums w v (clos l n)) (hE : Env w) (hg : P2.Good (n : Int) l) (hn : n ≤ 8) (ha : a < 2 ^ n) (hb : b < 2 ^ n) :
    Calls Tryd.prog 80 #[v, .int .u64 (a : Int), .int .u64 (b : Int)] w fun e w' => e = .returned (.bool (mvOne l a b)) ∧ w = w' := by
  obtain ⟨A, c, rfl, hcl⟩ := h.form
  have a8 := Nat.lt_of_lt_of_le ha (pow_le hn)
  have b8 := Nat.lt_of_lt_of_le hb (pow_le hn)
  have h1 := dif_walk a8 b8
  have h2 := dif_walk b8 a8
  have hl8 : difN a b < 256 := Nat.lt_of_lt_of_le (dif_lt hn ha) (pow_le hn)
  have hr8 : difN b a < 256 := Nat.lt_of_lt_of_le (dif_lt hn hb) (pow_le hn)
  have HCT := Lib.hid (count_any (difN a b) w hl8)
  have hlen := clos_len l n
  by_cases ho : onesN (difN a b) = 1
  · have n0 : difN a b ≠ 0 := fun e => by rw [e] at ho; exact absurd ho (by decide)
    have HLE := Lib.hid (least_any (difN a b) hl8 n0 w hE)
    have hcn : Lib.ctz 64 (difN a b) < n := by
      have hc := strip.ctz_hd hl8 n0
      obtain ⟨x, hx, hpx, hxe⟩ := mem_nw.1 (show strip.hd (nw (bitB (difN a b)) n) ∈ nw (bitB (difN a b)) n from by
        rw [one_list (L := nw (bitB (difN a b)) n) (by rw [nd_bits hn (dif_lt hn ha)]; exact ho)]; simp [strip.hd])
      rw [nd_bits hn (dif_lt hn ha)] at hxe
      have : ((Lib.ctz 64 (difN a b) : Nat) : Int) = strip.hd (ndN (difN a b)) := hc
      omega
    have HV : Hid (mvOne l a b = !(cloB l (Lib.ctz 64 (difN a b)) &&& difN b a == 0)) := by show _ = _; unfold mvOne; rw [ho]; rfl
    obtain ⟨g6, o6, rfl, c6⟩ := hcl _ _ (clos_at hcn)
    have hcn' : ((Lib.ctz 64 (difN a b) : Nat) : Int) < (n : Int) := by omega
    have hcb := cloB_lt' hg (Lib.ctz 64 (difN a b)) (by omega)
    have hand := bits_and_u64_nat (cloB l (Lib.ctz 64 (difN a b))) (difN b a) (by omega) (by omega)
    rw [ho] at HCT
    rw [hlen]
    clear h hcl hlen hE hcb
    generalize cloB l (Lib.ctz 64 (difN a b)) &&& difN b a = y0 at *
    generalize cloB l (Lib.ctz 64 (difN a b)) = y1 at *
    generalize Lib.ctz 64 (difN a b) = z at *
    generalize difN a b = d1 at *
    generalize difN b a = d2 at *
    go_enter Tryd.func80, Tryd.ntmps80
    go_wp2_with fail
    refine HCT.out.mono ?_
    rintro e w' ⟨rfl, rfl⟩
    go_wp2_with fail
    refine HLE.out.mono ?_
    rintro e w' ⟨rfl, rfl⟩
    go_wp2_with fail
    go_ret
    rw [HV.out]
    exact ⟨ret_bool (by first | exact bne0 _ | rfl), rfl⟩
  · have HV : Hid (mvOne l a b = false) := by show _ = _; unfold mvOne; rw [beq_eq_false_iff_ne.2 ho]; rfl
    have ho1 : ((onesN (difN a b) : Int) == 1) = false := by rw [beq_eq_false_iff_ne]; omega
    have ho2 : (onesN (difN a b) == 1) = false := by rw [beq_eq_false_iff_ne]; omega
    rw [hlen]
    clear h hcl hlen hE ho
    generalize onesN (difN a b) = q at *
    generalize difN a b = d1 at *
    generalize difN b a = d2 at *
    go_enter Tryd.func80, Tryd.ntmps80
    go_wp2_with fail
    refine HCT.out.mono ?_
    rintro e w' ⟨rfl, rfl⟩
    go_wp2_with fail
    go_ret
    rw [HV.out]
    exact ⟨rfl, rfl⟩
set_option maxHeartbeats 1000000 in
set_option maxRecDepth 100000 in
theorem moveAll_any (n a b : Nat) (v : Value) (l : List Ed) (w : World) (h : Nums w v (clos l n)) (hg : P2.Good (n : Int) l) (hn : n ≤ 8) (ha : a < 2 ^ n) (hb : b < 2 ^ n) :
    Calls Tryd.prog 79 #[v, .int .u64 (a : Int), .int .u64 (b : Int)] w fun e w' => e = .returned (.bool (mvAll l a b)) ∧ Below w.heap.size w w' := by
  obtain ⟨A, c, rfl, -⟩ := h.form
  have a8 := Nat.lt_of_lt_of_le ha (pow_le hn)
  have b8 := Nat.lt_of_lt_of_le hb (pow_le hn)
  have HN1 := Lib.hid (nodes_any a w (by omega))
  rw [show nw (bitB a) 8 = ndN a from rfl] at HN1
  have HN2 := Lib.hid (fun (W : World) => nodes_any b W (by omega))
  have HH := Lib.hid h
  have HCN := Lib.hid (fun (W : World) (u1 u2 : Value) (hW : Below w.heap.size w W) (h1 : Ints W u1 (ndN a)) (h2 : Ints W u2 (ndN b)) =>
    canMove_any n l (lsN b) (.slice A (clos l n).length c) u2 hg hn (by rw [lsN_len]; exact ones_le _) (fun y hy => (lsN_mem hn hb hy).1) (lsN a) (fun y hy => (lsN_mem hn ha hy).1) (by rw [lsN_len]; exact ones_le _) u1 0 W (by decide) (HH.out.below hW) h1 h2)
  clear h
  go_enter Tryd.func79, Tryd.ntmps79
  go_wp2_with fail
  refine HN1.out.mono ?_
  rintro e w1 ⟨A1, c1, rfl, o1, b1⟩
  have HB1 := Lib.hid b1
  have HO1 := Lib.hid o1
  clear o1 b1
  go_wp2_with fail
  refine (HN2.out w1).mono ?_
  rintro e w2 ⟨A2, c2, rfl, o2, b2⟩
  rw [show nw (bitB b) 8 = ndN b from rfl] at o2 ⊢
  have HB2 := Lib.hid (btrans HB1.out b2)
  have HC2 := Lib.hid (HCN.out w2 _ _ HB2.out (show Ints w2 _ _ from Reads.of_own (own_below HO1.out b2)) (show Ints w2 _ _ from Reads.of_own o2))
  clear o2 b2
  go_wp2_with fail
  refine HC2.out.mono ?_
  rintro e w3 ⟨rfl, m, rfl⟩
  go_wp2_with fail
  go_ret
  exact ⟨rfl, below_drewN HB2.out m⟩
def ruleF (all : Bool) : FuncId := if all then 79 else 80
theorem rule_mv {n : Nat} {l : List Ed} (hg : P2.Good (n : Int) l) (hn : n ≤ 8) (all : Bool) : FnMv (ruleF all) n l all := by
  cases all with
  | true => exact { enter := fun _ _ => by kernel_rfl, call := fun W v a b h _ ha hb => moveAll_any n a b v l W h hg hn ha hb }
  | false => exact { enter := fun _ _ => by kernel_rfl, call := fun W v a b h hE ha hb => (moveOne_any n a b v l W h hE hg hn ha hb).mono fun _ _ ⟨h1, h2⟩ => ⟨h1, by subst h2; exact Below.refl _ _⟩ }
theorem ruleOf_any (all : Bool) (w : World) : Calls Tryd.prog 40 #[.bool all] w fun e w' => e = .returned (.func (.func (ruleF all)) #[] #[]) ∧ w = w' := by
  cases all with
  | true =>
    go_enter Tryd.func40, Tryd.ntmps40
    go_wp2_with fail
    go_ret
    exact ⟨rfl, rfl⟩
  | false =>
    go_enter Tryd.func40, Tryd.ntmps40
    go_wp2_with fail
    go_ret
    exact ⟨rfl, rfl⟩
end Go.Proofs.YthpodbhiopnnbaaDoor.ups

/- The contract of the program's LeastSpreading. -/
namespace Go.Proofs.YthpodbhiopnnbaaDoor.ups
open Go.RowKit P2 words edges ints good adjs fns sets rets covs bags bitsI func
set_option linter.unusedVariables false

/-- a set is spreading -/
noncomputable def fullB (n : Nat) (l : List Ed) (r c : Nat) : Bool := spN n l r c == 2 ^ n - 1
theorem full_all (n : Nat) (l : List Ed) (r : Nat) : fullB n l r (2 ^ n - 1) = true := by
  unfold fullB
  rw [spN_is Spr.base (full_stops rfl)]
  simp
noncomputable def lspN (n : Nat) (l : List Ed) (r : Nat) : Nat := bestC (fullB n l r) rkMin n
theorem beq_cast (a b : Nat) : (((a : Nat) : Int) == ((b : Nat) : Int)) = (a == b) := by
  rw [Bool.eq_iff_iff, beq_iff_eq, beq_iff_eq]; omega
end Go.Proofs.YthpodbhiopnnbaaDoor.ups

/- The contracts of the program's ballsIn, isFar, IsFarSet, largestFar, LargestFarSet and FarBound. -/
namespace Go.Proofs.YthpodbhiopnnbaaDoor.ups
open Go.RowKit P2 words edges ints good adjs fns sets rets covs bags bitsI func
set_option linter.unusedVariables false

theorem bne_cast (a b : Nat) : (((a : Nat) : Int) != ((b : Nat) : Int)) = !(a == b) := by
  show (!(((a : Nat) : Int) == ((b : Nat) : Int))) = _
  rw [beq_cast]
/-- another node of the set is in the ball -/
def farQ (l : List Ed) (n r c : Nat) (x : Int) : Bool := !(bN l n x.toNat r &&& c == 2 ^ x.toNat)
def FarOk (s : Int) (l : List Ed) (xs : List Int) (k : Int) : Prop := NumOk s l k ∧ SetOk s l xs
noncomputable def farV (s : Int) (l : List Ed) (xs : List Int) (k : Int) : Bool := okG (FarOk s l xs k ∧ farB l s.toNat (2 * k.toNat - 2) (codeL xs) = true)
end Go.Proofs.YthpodbhiopnnbaaDoor.ups

/- Guards: the contracts of the program's IsDominating, LeastDominating and LargestIndependent. -/
namespace Go.Proofs.YthpodbhiopnnbaaDoor.ups
open Go.RowKit P2 words edges ints good adjs fns sets rets covs bags bitsI func
set_option linter.unusedVariables false

theorem beq_castD (a b : Nat) : (((a : Nat) : Int) == ((b : Nat) : Int)) = (a == b) := by
  rw [Bool.eq_iff_iff, beq_iff_eq, beq_iff_eq]; omega
def DomP (s : Int) (l : List Ed) (xs : List Int) : Prop := SetOk s l xs ∧ domB s.toNat l (codeL xs) = true
theorem domP_is {n : Nat} {l : List Ed} {xs : List Int} (h : SetOk (n : Int) l xs) : okG (DomP (n : Int) l xs) = domB n l (codeL xs) := by
  unfold DomP
  rw [Int.toNat_natCast, Bool.eq_iff_iff, okG_iff]
  exact ⟨fun h => h.2, fun h2 => ⟨h, h2⟩⟩
noncomputable def ldN (n : Nat) (l : List Ed) : Nat := bestC (domB n l) rkMin n
noncomputable def liN (n : Nat) (l : List Ed) : Nat := bestC (farB l n 1) rkMax n
end Go.Proofs.YthpodbhiopnnbaaDoor.ups
