/- Guards: the contract of the model's l10Moves. -/
import Derived.Handy
import Derived.Test.YtdhbaegkogklgaaDoorK18
import Derived.Maps.AppendAt
import Derived.Deep.DeepCutAuto
import Derived.Deep.RegionHeld3
import Derived.Deep.QuietTactic
import Derived.Test.YtdhbaegkogklgaaDoorK16
import Derived.Test.YtdhbaegkogklgaaDoorK14
import Derived.Test.YtdhbaegkogklgaaDoorK10
import Derived.Test.YtdhbaegkogklgaaDoorK02
import Derived.Test.YtdhbaegkogklgaaDoorK03
namespace Go.Proofs.YtdhbaegkogklgaaDoor.ups
open Go.RowKit P2 words edges ints good adjs fns sets rets covs bags balls bitsI func lists times apps trip
set_option linter.unusedVariables false

/-- two rows of the call's own that lie apart -/
def Two (w : World) (B : Nat) (u v : Value) (L M : List Int) : Prop :=
  w.ownsRow B 3 1 u L.length (cellsI L) ∧ w.ownsRow B 3 1 v M.length (cellsI M) ∧ ∀ b, u.ownBlock = some b → v.ownBlock ≠ some b
theorem Two.below {w w' : World} {B : Nat} {u v : Value} {L M : List Int} (h : Two w B u v L M) (hb : Below w.heap.size w w') : Two w' B u v L M :=
  ⟨own_below h.1 hb, own_below h.2.1 hb, h.2.2⟩
theorem Two.swap {w : World} {B : Nat} {u v : Value} {L M : List Int} (h : Two w B u v L M) : Two w B v u M L :=
  ⟨h.2.1, h.1, fun b hb hc => h.2.2 b hc hb⟩
theorem Two.push {w w' : World} {B : Nat} {u v u' : Value} {L M : List Int} {x : Int} {o : Obj} (h : Two w B u v L M) (ho : w'.ownsRow B 3 1 u' (L.length + 1) (cellsI L ++ [.int .i64 x])) (hg : (w.alloc o).grownBy w' u.ownBlock)
    (hl : u'.ownBlock = u.ownBlock ∨ u'.ownBlock = some (w.alloc o).heap.size) : Two w' B u' v (L ++ [x]) M := by
  refine ⟨?_, (h.2.1.alloc o).kept hg ?_, fun b hb hc => ?_⟩
  · rw [List.length_append, show cellsI (L ++ [x]) = cellsI L ++ [.int .i64 x] from by simp [cellsI]]
    exact ho
  · cases hv : v.ownBlock with
    | none => exact .inl rfl
    | some b => exact .inr fun e => h.2.2 b e.symm hv
  · rcases hl with e | e
    · exact h.2.2 b (e.symm.trans hb) hc
    · rw [e] at hb
      have h1 := (h.2.1.lt b hc).2
      have h2 : (w.alloc o).heap.size = b := by simpa using hb
      rw [World.size_alloc] at h2
      omega
/-- what is in one list alone, of its first k elements -/
def outK (A B : List Int) (k : Nat) : List Int := (A.take k).filter fun x => !decide (x ∈ B)
theorem outK_yes {A B : List Int} {k : Nat} {x : Int} (h : A[k]? = some x) (hb : x ∉ B) : outK A B (k + 1) = outK A B k ++ [x] := by
  unfold outK; rw [List.take_add_one, h, List.filter_append]; simp [hb]
theorem outK_no {A B : List Int} {k : Nat} {x : Int} (h : A[k]? = some x) (hb : x ∈ B) : outK A B (k + 1) = outK A B k := by
  unfold outK; rw [List.take_add_one, h, List.filter_append]; simp [hb]
theorem outK_len (A B : List Int) (k : Nat) : (outK A B k).length ≤ k := by
  unfold outK
  have := List.length_filter_le (fun x => !decide (x ∈ B)) (A.take k)
  rw [List.length_take] at this
  omega
theorem outK_all {a b : Nat} : outK (ndN a) (ndN b) (ndN a).length = nw (difB a b) 8 := by
  unfold outK ndN nw
  rw [List.take_length, List.filter_map, List.filter_filter]
  congr 1
  apply List.filter_congr
  intro y hy
  have hy8 := List.mem_range.1 hy
  unfold difB
  rw [Bool.and_comm]
  congr 1
  show (!decide ((y : Int) ∈ _)) = _
  congr 1
  rw [Bool.eq_iff_iff, decide_eq_true_iff, List.mem_map]
  constructor
  · rintro ⟨z, hz, e⟩
    have : z = y := by omega
    subst this
    exact (List.mem_filter.1 hz).2
  · intro h
    exact ⟨y, List.mem_filter.2 ⟨hy, h⟩, rfl⟩
theorem nw_dif (a b : Nat) : nw (difB a b) 8 = ndN (difN a b) := by unfold ndN difN; rw [nodes_num (Nat.le_refl 8)]
theorem nw_dif_n {n a b : Nat} (hn : n ≤ 8) (ha : a < 2 ^ n) : nw (difB a b) n = nw (difB a b) 8 := by
  refine (nw_more hn fun k h1 _ => ?_).symm
  unfold difB bitB
  rw [Nat.testBit_lt_two_pow (Nat.lt_of_lt_of_le ha (Nat.pow_le_pow_right (by decide) h1)), Bool.false_and]
theorem lsN_nodup (c : Nat) : (lsN c).Nodup := List.Nodup.sublist List.filter_sublist List.nodup_range
theorem eq1L (y : Nat) : (((y : Nat) : Int) == 1) = (y == 1) := by
  rw [Bool.eq_iff_iff, beq_iff_eq, beq_iff_eq]; omega
set_option maxHeartbeats 8000000 in
set_option maxRecDepth 100000 in
theorem l10Moves_any (n a b : Nat) (all : Bool) (v uf ut : Value) (l : List Ed) (w : World) (h : Edges w v l) (hl : l.length ≤ 1048576) (hu1 : Ints w uf (ndN a)) (hu2 : Ints w ut (ndN b)) (hg : P2.Good (n : Int) l) (hn : n ≤ 8) (ha : a < 2 ^ n) (hb : b < 2 ^ n) (hab : onesN a = onesN b) :
    Calls Tryd.prog 122 #[.agg #[.int .i64 (n : Int), v], uf, ut, .bool all] w fun e w' => e = .returned (.bool (mvB l all a b)) ∧ Below w.heap.size w w' := by
  obtain ⟨A, c, rfl, -⟩ := h.form
  have H := Lib.hid h
  have HU1 := Lib.hid hu1
  have HU2 := Lib.hid hu2
  have HB0 : Hid (Below w.heap.size w (w.alloc (.cells #[.int .i64 (n : Int), .slice A l.length c] 29))) := (Below.refl _ _).alloc (Nat.le_refl _) _
  have HG0 := Lib.hid (Blk.new w 29 #[.int .i64 (n : Int), .slice A l.length c])
  obtain ⟨p0, p1, -, -⟩ := HG0.out.two
  cases all with
  | true =>
    have HM : Hid (∀ (tv : Value) (W : World), Below w.heap.size w W → Ints W tv [] → Calls Tryd.prog 146 #[.agg #[.int .i64 (n : Int), .slice A l.length c], uf, ut, .int .i64 0, tv] W fun e w' => e = .returned (.bool (mvB l true a b)) ∧ Below W.heap.size W w') := fun tv W hW htv =>
      l10Matches_any n l (lsN a) (lsN b) (.slice A l.length c) uf ut hg hn hl (by rw [lsN_len]; exact ones_le _) (fun y hy => (lsN_mem hn ha hy).1) (by rw [lsN_len]; exact ones_le _) (fun y hy => (lsN_mem hn hb hy).1) (lsN_nodup b) (lsN a) 0 rfl (Nat.zero_le _) [] 0 tv W (by decide) (H.out.below hW) (HU1.out.below hW) (HU2.out.below hW) htv (Nat.le_refl _) (fun i y _ => by simp)
    have HO1 := Lib.hid (own_new0 (w.alloc (.cells #[.int .i64 (n : Int), .slice A l.length c] 29)) 3 1)
    have HB1 : Hid (Below w.heap.size w ((w.alloc (.cells #[.int .i64 (n : Int), .slice A l.length c] 29)).alloc (.cells #[] 3))) := HB0.out.alloc HB0.out.size _
    have HM1 := Lib.hid (HM.out _ _ HB1.out (show Ints _ _ [] from Reads.of_own HO1.out))
    rw [World.size_alloc] at HM1
    clear h hu1 hu2 hg HO1
    go_enter Tryd.func122, Tryd.ntmps122
    go_wp2_with fail
    refine HM1.out.mono ?_
    rintro e w1 ⟨rfl, b1⟩
    go_wp2_with fail
    go_ret
    exact ⟨rfl, btrans HB1.out b1⟩
  | false =>
    have hxl : (ndN a).length ≤ 8 := ones_le a
    have HXE : Hid ((ndN a).length = (ndN b).length) := hab
    have HAB : Hid (outK (ndN a) (ndN b) (ndN a).length = ndN (difN a b) ∧ outK (ndN b) (ndN a) (ndN a).length = ndN (difN b a)) := ⟨by rw [outK_all, nw_dif], by rw [HXE.out, outK_all, nw_dif]⟩
    have HSM := Lib.hid (dif_same hab)
    have HMV : Hid (onesN (difN a b) = 1 → mvB l false a b = adj l (strip.hd (ndN (difN a b))) (strip.hd (ndN (difN b a)))) := fun h1 => by
      have h_ := mvOne_is hg hn ha hb h1 (by rw [← HSM.out]; exact h1)
      rw [nw_dif_n hn ha, nw_dif_n hn hb, nw_dif, nw_dif] at h_
      exact h_
    have HMN : Hid (onesN (difN a b) ≠ 1 → mvB l false a b = false) := fun h1 => by
      show mvOne l a b = false
      unfold mvOne
      rw [beq_eq_false_iff_ne.2 h1]; rfl
    have HHS := Lib.hid (fun (u : Value) (xs : List Int) (x : Int) (W : World) (hu : Ints W u xs) (hx : xs.length ≤ 8) => l1Has_any u xs x W hu (by omega))
    have HNR := Lib.hid (fun (x y : Int) (W : World) (hW : Below w.heap.size w W) => l2Near_any (n : Int) x y (.slice A l.length c) l W (H.out.below hW) hl)
    obtain ⟨A1, c1, rfl, hc1⟩ := hu1.form
    obtain ⟨A2, c2, rfl, hc2⟩ := hu2.form
    have HC1 := Lib.hid hc1
    have HC2 := Lib.hid hc2
    have HT0 : Hid (Two (((w.alloc (.cells #[.int .i64 (n : Int), .slice A l.length c] 29)).alloc (.cells #[] 3)).alloc (.cells #[] 3)) w.heap.size (.slice (some ⟨w.heap.size + 1, 0, none⟩) 0 0) (.slice (some ⟨w.heap.size + 2, 0, none⟩) 0 0) [] []) := by
      have h1 := own_new0 (w.alloc (.cells #[.int .i64 (n : Int), .slice A l.length c] 29)) 3 1
      have h2 := own_new0 ((w.alloc (.cells #[.int .i64 (n : Int), .slice A l.length c] 29)).alloc (.cells #[] 3)) 3 1
      rw [World.size_alloc] at h1
      rw [World.size_alloc, World.size_alloc] at h2
      exact ⟨own_base (h1.alloc _) (by omega), own_base h2 (by omega), fun b hb hc => by simp [Value.ownBlock] at hb hc; omega⟩
    have HB2 : Hid (Below w.heap.size w (((w.alloc (.cells #[.int .i64 (n : Int), .slice A l.length c] 29)).alloc (.cells #[] 3)).alloc (.cells #[] 3))) := (HB0.out.alloc HB0.out.size _).alloc (by simp; omega) _
    have HG2 := Lib.hid ((HG0.out.alloc (.cells #[] 3)).alloc (.cells #[] 3))
    obtain ⟨i0, hi, hz0, hz1, hz2⟩ := info_parts infoInt
    have hyl : (ndN b).length ≤ 8 := ones_le b
    clear h hu1 hu2 hc1 hc2 hg ha hb hab p0 p1 HB0 HG0
    have HON : Hid (onesN (difN a b) = (ndN (difN a b)).length ∧ onesN (difN b a) = (ndN (difN b a)).length) := ⟨rfl, rfl⟩
    rw [HON.out.1] at HMV HMN
    rw [HON.out.1, HON.out.2] at HSM
    clear HON
    generalize ndN (difN a b) = GA at *
    generalize ndN (difN b a) = GB at *
    generalize mvB l false a b = res at *
    generalize ndN a = XA at *
    generalize ndN b = XB at *
    have hxe : (XA.length : Int) = (XB.length : Int) := by rw [HXE.out]
    have HXE2 := Lib.hid hxe
    clear hxe
    go_enter Tryd.func122, Tryd.ntmps122
    go_wp2_with fail
    go_loopg [9, 10, 11] XA.length (fun g gv cv iv wr => ∃ (k : Nat) (gw cw : Value), gw = gv ∧ cw = cv ∧ k + g = XA.length ∧ iv = .int .i64 (k : Int) ∧ Two wr w.heap.size gw cw (outK XA XB k) (outK XB XA k) ∧ Blk wr w.heap.size 29 #[.int .i64 (n : Int), .slice A l.length c] ∧ Below w.heap.size w wr)
    case atStart => exact ⟨0, _, _, rfl, rfl, by omega, rfl, HT0.out, HG2.out, HB2.out⟩
    case round =>
      clear HT0 HG2 HB2
      obtain ⟨k, gw, cw, rfl, rfl, hkg, rfl, htw, hgb, hB⟩ := hrel
      obtain ⟨Ag, cg, rfl⟩ := own_form htw.1
      obtain ⟨Ac, cc, rfl⟩ := own_form htw.2.1
      obtain ⟨p0, p1, -, -⟩ := hgb.two
      have HB := Lib.hid hB
      have HG := Lib.hid hgb
      have HT := Lib.hid htw
      cases gk with
      | zero =>
        obtain rfl : k = XA.length := by omega
        rw [HAB.out.1, HAB.out.2] at HT
        rw [HAB.out.1, HAB.out.2]
        clear htw hgb hB
        by_cases h1 : GA.length = 1
        · obtain ⟨x, hx⟩ : ∃ x, GA = [x] := ⟨_, one_list h1⟩
          obtain ⟨y, hy⟩ : ∃ y, GB = [y] := ⟨_, one_list (by rw [← HSM.out]; exact h1)⟩
          have HV : Hid (res = adj l x y) := by
            have h_ := HMV.out h1
            rw [hx, hy] at h_
            exact h_
          subst hx hy
          obtain ⟨gg, hgg, cg0, -, -⟩ := own_at (i := 0) HT.out.1 rfl
          obtain ⟨gc, hgc, cc0, -, -⟩ := own_at (i := 0) HT.out.2.1 rfl
          subst hgg hgc
          have HN1 := Lib.hid (HNR.out x y wr.drew HB.out.drew)
          rw [show [x].length = 1 from rfl, show [y].length = 1 from rfl]
          clear h1 HMV HMN HSM
          go_wp2_with fail
          refine wp_region_held_drew (S := (fun w' : World => w'.cell? ⟨w.heap.size, 0, none⟩ = some (.int .i64 (n : Int)) ∧ w'.cell? ⟨w.heap.size, 1, none⟩ = some (.slice A l.length c) ∧ w'.cell? ⟨gg, 0, none⟩ = some (.int .i64 x) ∧ w'.cell? ⟨gc, 0, none⟩ = some (.int .i64 y))) (by kernel_rfl) (by (try dsimp only); simp [*]) (fun hHeld => ?_)
          change wpAnyH _ _ _ _ _ _ #[false, false, false, false, false, false, false, false, false, false, false, false, false, false] _ _
          refine wpAnyH_take (i := 0) (oi := ⟨some 54, _, _, _, _, _⟩) (v := ?_) rfl (by kernel_rfl) (by kernel_rfl) (by kernel_rfl) (fun _ _ _ h => h) (Or.inl ⟨by rfl, ?_⟩) (by assumption) ?_
          rotate_left
          · (intro w hSw; (try dsimp only at hSw); go_simp; (try (with_reducible rfl)))
          try simp only [Act.put, List.setIfInBounds_toArray, List.set_cons_zero, List.set_cons_succ]
          refine wpAnyH_take (i := 1) (oi := ⟨some 55, _, _, _, _, _⟩) (v := ?_) rfl (by kernel_rfl) (by kernel_rfl) (by kernel_rfl) (fun _ _ _ h => h) (Or.inl ⟨by rfl, ?_⟩) (by assumption) ?_
          rotate_left
          · (intro w hSw; (try dsimp only at hSw); go_simp; (try (with_reducible rfl)))
          try simp only [Act.put, List.setIfInBounds_toArray, List.set_cons_zero, List.set_cons_succ]
          refine wpAnyH_take (i := 2) (oi := ⟨some 56, _, _, _, _, _⟩) (v := ?_) rfl (by kernel_rfl) (by kernel_rfl) (by kernel_rfl) (fun _ _ _ h => h) (Or.inl ⟨by rfl, ?_⟩) (by assumption) ?_
          rotate_left
          · (intro w hSw; (try dsimp only at hSw); go_simp; (try (with_reducible rfl)))
          try simp only [Act.put, List.setIfInBounds_toArray, List.set_cons_zero, List.set_cons_succ]
          refine wpAnyH_take (i := 3) (oi := ⟨some 57, _, _, _, _, _⟩) (v := ?_) rfl (by kernel_rfl) (by kernel_rfl) (by kernel_rfl) (fun _ _ _ h => h) (Or.inl ⟨by rfl, ?_⟩) (by assumption) ?_
          rotate_left
          · (intro w hSw; (try dsimp only at hSw); go_simp; (try (with_reducible rfl)))
          try simp only [Act.put, List.setIfInBounds_toArray, List.set_cons_zero, List.set_cons_succ]
          refine wpAnyH_take (i := 4) (oi := ⟨some 58, _, _, _, _, _⟩) (v := ?_) rfl (by kernel_rfl) (by kernel_rfl) (by kernel_rfl) (fun _ _ _ h => h) (Or.inl ⟨by rfl, ?_⟩) (by assumption) ?_
          rotate_left
          · (intro w hSw; (try dsimp only at hSw); go_simp; (try (with_reducible rfl)))
          try simp only [Act.put, List.setIfInBounds_toArray, List.set_cons_zero, List.set_cons_succ]
          refine wpAnyH_take (i := 5) (oi := ⟨some 59, _, _, _, _, _⟩) (v := ?_) rfl (by kernel_rfl) (by kernel_rfl) (by kernel_rfl) (fun _ _ _ h => h) (Or.inl ⟨by rfl, ?_⟩) (by assumption) ?_
          rotate_left
          · (intro w hSw; (try dsimp only at hSw); go_simp; (try (with_reducible rfl)))
          try simp only [Act.put, List.setIfInBounds_toArray, List.set_cons_zero, List.set_cons_succ]
          refine wpAnyH_take (i := 6) (oi := ⟨some 60, _, _, _, _, _⟩) (v := ?_) rfl (by kernel_rfl) (by kernel_rfl) (by kernel_rfl) (fun _ _ _ h => h) (Or.inl ⟨by rfl, ?_⟩) (by assumption) ?_
          rotate_left
          · (intro w hSw; (try dsimp only at hSw); go_simp; (try (with_reducible rfl)))
          try simp only [Act.put, List.setIfInBounds_toArray, List.set_cons_zero, List.set_cons_succ]
          refine wpAnyH_take (i := 7) (oi := ⟨some 61, _, _, _, _, _⟩) (v := ?_) rfl (by kernel_rfl) (by kernel_rfl) (by kernel_rfl) (fun _ _ _ h => h) (Or.inl ⟨by rfl, ?_⟩) (by assumption) ?_
          rotate_left
          · (intro w hSw; (try dsimp only at hSw); go_simp; (try (with_reducible rfl)))
          try simp only [Act.put, List.setIfInBounds_toArray, List.set_cons_zero, List.set_cons_succ]
          refine wpAnyH_take (i := 8) (oi := ⟨some 62, _, _, _, _, _⟩) (v := ?_) rfl (by kernel_rfl) (by kernel_rfl) (by kernel_rfl) (fun _ _ _ h => h) (Or.inl ⟨by rfl, ?_⟩) (by assumption) ?_
          rotate_left
          · (intro w hSw; (try dsimp only at hSw); go_simp; (try (with_reducible rfl)))
          try simp only [Act.put, List.setIfInBounds_toArray, List.set_cons_zero, List.set_cons_succ]
          refine wpAnyH_take (i := 9) (oi := ⟨some 63, _, _, _, _, _⟩) (v := ?_) rfl (by kernel_rfl) (by kernel_rfl) (by kernel_rfl) (fun _ _ _ h => h) (Or.inl ⟨by rfl, ?_⟩) (by assumption) ?_
          rotate_left
          · (intro w hSw; (try dsimp only at hSw); go_simp; (try (with_reducible rfl)))
          try simp only [Act.put, List.setIfInBounds_toArray, List.set_cons_zero, List.set_cons_succ]
          refine wpAnyH_take (i := 10) (oi := ⟨some 64, _, _, _, _, _⟩) (v := ?_) rfl (by kernel_rfl) (by kernel_rfl) (by kernel_rfl) (fun _ _ _ h => h) (Or.inl ⟨by rfl, ?_⟩) (by assumption) ?_
          rotate_left
          · (intro w hSw; (try dsimp only at hSw); go_simp; (try (with_reducible rfl)))
          try simp only [Act.put, List.setIfInBounds_toArray, List.set_cons_zero, List.set_cons_succ]
          refine wpAnyH_ready (rs := [11]) (by kernel_rfl) (by simp) ?_
          refine AllReadyH.cons (o := ⟨some 65, _, _, _, _, _⟩) rfl (fun K hK => ?_) AllReadyH.nil
          go_simp
          (with_reducible refine HN1.out.mono ?_); rintro e w4 ⟨rfl, b4⟩; have d4 : Below wr.heap.size wr w4 := btrans (Below.refl _ _).drew b4; obtain ⟨k0, k1, -, -⟩ := (HG.out.below d4 HG.out.lt).two; have k2 := nearv.cell_keep cg0 d4; have k3 := nearv.cell_keep cc0 d4
          go_wp2_with fail
          refine hK.out _ _ (by (try dsimp only); simp [*]) (fun hHeld => ?_)
          clear hK K
          try simp only [List.setIfInBounds_toArray, List.set_cons_zero, List.set_cons_succ]
          refine wpAnyH_take (i := 12) (oi := ⟨some 66, _, _, _, _, _⟩) (v := ?_) rfl (by kernel_rfl) (by kernel_rfl) (by kernel_rfl) (fun _ _ _ h => h) (Or.inl ⟨by rfl, ?_⟩) (by assumption) ?_
          rotate_left
          · (intro w hSw; (try dsimp only at hSw); go_simp; (try (with_reducible rfl)))
          try simp only [Act.put, List.setIfInBounds_toArray, List.set_cons_zero, List.set_cons_succ]
          refine wpAnyH_take (i := 13) (oi := ⟨some 8, _, _, _, _, _⟩) (v := ?_) rfl (by kernel_rfl) (by kernel_rfl) (by kernel_rfl) (fun _ _ _ h => h) (Or.inl ⟨by rfl, ?_⟩) (by assumption) ?_
          rotate_left
          · (intro w hSw; (try dsimp only at hSw); go_simp; (try (with_reducible rfl)))
          try simp only [Act.put, List.setIfInBounds_toArray, List.set_cons_zero, List.set_cons_succ]
          refine wpAnyH_done (by kernel_rfl) ?_ _
          go_wp2_with fail
          go_ret
          rw [HV.out]
          exact ⟨rfl, btrans HB.out d4⟩
        · have HV := Lib.hid (HMN.out h1)
          have hq1 : ((GA.length : Int) == 1) = false := by rw [beq_eq_false_iff_ne]; omega
          have hq2 : (GA.length == 1) = false := by rw [beq_eq_false_iff_ne]; exact h1
          clear h1 HMV HMN HSM
          go_wp2_with fail
          refine wp_region_held_drew (S := (fun w' : World => w'.cell? ⟨w.heap.size, 0, none⟩ = some (.int .i64 (n : Int)) ∧ w'.cell? ⟨w.heap.size, 1, none⟩ = some (.slice A l.length c))) (by kernel_rfl) (by (try dsimp only); simp [*]) (fun hHeld => ?_)
          change wpAnyH _ _ _ _ _ _ #[false, false, false, false, false, false, false, false, false, false, false, false, false, false] _ _
          refine wpAnyH_take (i := 0) (oi := ⟨some 54, _, _, _, _, _⟩) (v := ?_) rfl (by kernel_rfl) (by kernel_rfl) (by kernel_rfl) (fun _ _ _ h => h) (Or.inl ⟨by rfl, ?_⟩) (by assumption) ?_
          rotate_left
          · (intro w hSw; (try dsimp only at hSw); go_simp; (try (with_reducible rfl)))
          try simp only [Act.put, List.setIfInBounds_toArray, List.set_cons_zero, List.set_cons_succ]
          refine wpAnyH_take (i := 1) (oi := ⟨some 55, _, _, _, _, _⟩) (v := ?_) rfl (by kernel_rfl) (by kernel_rfl) (by kernel_rfl) (fun _ _ _ h => h) (Or.inl ⟨by rfl, ?_⟩) (by assumption) ?_
          rotate_left
          · (intro w hSw; (try dsimp only at hSw); go_simp; (try (with_reducible rfl)))
          try simp only [Act.put, List.setIfInBounds_toArray, List.set_cons_zero, List.set_cons_succ]
          refine wpAnyH_take (i := 2) (oi := ⟨some 56, _, _, _, _, _⟩) (v := ?_) rfl (by kernel_rfl) (by kernel_rfl) (by kernel_rfl) (fun _ _ _ h => h) (Or.inl ⟨by rfl, ?_⟩) (by assumption) ?_
          rotate_left
          · (intro w hSw; (try dsimp only at hSw); go_simp; (try (with_reducible rfl)))
          try simp only [Act.put, List.setIfInBounds_toArray, List.set_cons_zero, List.set_cons_succ]
          refine wpAnyH_take (i := 3) (oi := ⟨some 57, _, _, _, _, _⟩) (v := ?_) rfl (by kernel_rfl) (by kernel_rfl) (by kernel_rfl) (fun _ _ _ h => h) (Or.inl ⟨by rfl, ?_⟩) (by assumption) ?_
          rotate_left
          · (intro w hSw; (try dsimp only at hSw); go_simp; (try (with_reducible rfl)))
          try simp only [Act.put, List.setIfInBounds_toArray, List.set_cons_zero, List.set_cons_succ]
          refine wpAnyH_take (i := 4) (oi := ⟨some 58, _, _, _, _, _⟩) (v := undef) rfl (by kernel_rfl) (by kernel_rfl) (by kernel_rfl) (fun _ _ _ h => h) (Or.inr ⟨by rfl, rfl⟩) (by assumption) ?_
          try simp only [Act.put, List.setIfInBounds_toArray, List.set_cons_zero, List.set_cons_succ]
          refine wpAnyH_take (i := 5) (oi := ⟨some 59, _, _, _, _, _⟩) (v := undef) rfl (by kernel_rfl) (by kernel_rfl) (by kernel_rfl) (fun _ _ _ h => h) (Or.inr ⟨by rfl, rfl⟩) (by assumption) ?_
          try simp only [Act.put, List.setIfInBounds_toArray, List.set_cons_zero, List.set_cons_succ]
          refine wpAnyH_take (i := 6) (oi := ⟨some 60, _, _, _, _, _⟩) (v := undef) rfl (by kernel_rfl) (by kernel_rfl) (by kernel_rfl) (fun _ _ _ h => h) (Or.inr ⟨by rfl, rfl⟩) (by assumption) ?_
          try simp only [Act.put, List.setIfInBounds_toArray, List.set_cons_zero, List.set_cons_succ]
          refine wpAnyH_take (i := 7) (oi := ⟨some 61, _, _, _, _, _⟩) (v := undef) rfl (by kernel_rfl) (by kernel_rfl) (by kernel_rfl) (fun _ _ _ h => h) (Or.inr ⟨by rfl, rfl⟩) (by assumption) ?_
          try simp only [Act.put, List.setIfInBounds_toArray, List.set_cons_zero, List.set_cons_succ]
          refine wpAnyH_take (i := 8) (oi := ⟨some 62, _, _, _, _, _⟩) (v := undef) rfl (by kernel_rfl) (by kernel_rfl) (by kernel_rfl) (fun _ _ _ h => h) (Or.inr ⟨by rfl, rfl⟩) (by assumption) ?_
          try simp only [Act.put, List.setIfInBounds_toArray, List.set_cons_zero, List.set_cons_succ]
          refine wpAnyH_take (i := 9) (oi := ⟨some 63, _, _, _, _, _⟩) (v := undef) rfl (by kernel_rfl) (by kernel_rfl) (by kernel_rfl) (fun _ _ _ h => h) (Or.inr ⟨by rfl, rfl⟩) (by assumption) ?_
          try simp only [Act.put, List.setIfInBounds_toArray, List.set_cons_zero, List.set_cons_succ]
          refine wpAnyH_take (i := 10) (oi := ⟨some 64, _, _, _, _, _⟩) (v := undef) rfl (by kernel_rfl) (by kernel_rfl) (by kernel_rfl) (fun _ _ _ h => h) (Or.inr ⟨by rfl, rfl⟩) (by assumption) ?_
          try simp only [Act.put, List.setIfInBounds_toArray, List.set_cons_zero, List.set_cons_succ]
          refine wpAnyH_take (i := 11) (oi := ⟨some 65, _, _, _, _, _⟩) (v := undef) rfl (by kernel_rfl) (by kernel_rfl) (by kernel_rfl) (fun _ _ _ h => h) (Or.inr ⟨by rfl, rfl⟩) (by assumption) ?_
          try simp only [Act.put, List.setIfInBounds_toArray, List.set_cons_zero, List.set_cons_succ]
          refine wpAnyH_take (i := 12) (oi := ⟨some 66, _, _, _, _, _⟩) (v := ?_) rfl (by kernel_rfl) (by kernel_rfl) (by kernel_rfl) (fun _ _ _ h => h) (Or.inl ⟨by rfl, ?_⟩) (by assumption) ?_
          rotate_left
          · (intro w hSw; (try dsimp only at hSw); go_simp; (try (with_reducible rfl)))
          try simp only [Act.put, List.setIfInBounds_toArray, List.set_cons_zero, List.set_cons_succ]
          refine wpAnyH_take (i := 13) (oi := ⟨some 8, _, _, _, _, _⟩) (v := ?_) rfl (by kernel_rfl) (by kernel_rfl) (by kernel_rfl) (fun _ _ _ h => h) (Or.inl ⟨by rfl, ?_⟩) (by assumption) ?_
          rotate_left
          · (intro w hSw; (try dsimp only at hSw); go_simp; (try (with_reducible rfl)))
          try simp only [Act.put, List.setIfInBounds_toArray, List.set_cons_zero, List.set_cons_succ]
          refine wpAnyH_done (by kernel_rfl) ?_ _
          go_wp2_with fail
          go_ret
          rw [HV.out]
          exact ⟨rfl, HB.out.drew⟩
      | succ g2 =>
        have hlt : k < XA.length := by omega
        have hlt' : (k : Int) < (XA.length : Int) := by omega
        have hltb : (k : Int) < (XB.length : Int) := by rw [← HXE2.out]; exact hlt'
        obtain ⟨x, hx⟩ : ∃ x, XA[k]? = some x := ⟨_, List.getElem?_eq_getElem hlt⟩
        obtain ⟨y, hy⟩ : ∃ y, XB[k]? = some y := ⟨_, List.getElem?_eq_getElem (by omega)⟩
        obtain ⟨g1, o1, rfl, qa⟩ := HC1.out k x hx
        obtain ⟨g2_, o2, rfl, qb⟩ := HC2.out k y hy
        have QA := Lib.hid qa
        have QB := Lib.hid qb
        have ra := nearv.cell_keep qa hB
        have rb := nearv.cell_keep qb hB
        have hszHB := hB.size
        have hla := outK_len XA XB k
        have hlb := outK_len XB XA k
        clear qa qb
        have HH1 := Lib.hid (fun (W : World) (hW : Below w.heap.size w W) => HHS.out _ XB x W (HU2.out.below hW) hyl)
        have HH2 := Lib.hid (fun (W : World) (hW : Below w.heap.size w W) => HHS.out _ XA y W (HU1.out.below hW) hxl)
        by_cases hx1 : x ∈ XB
        · by_cases hy1 : y ∈ XA
          · have KA := Lib.hid (outK_no (A := XA) (B := XB) hx hx1)
            have KB := Lib.hid (outK_no (A := XB) (B := XA) hy hy1)
            rw [decide_eq_true hx1] at HH1
            rw [decide_eq_true hy1] at HH2
            clear hx hy hx1 hy1 htw hgb hB
            generalize hLA : outK XA XB k = LA at *
            generalize hLB : outK XB XA k = LB at *
            clear hLA hLB
            go_wp2_with fail
            refine (HH1.out wr HB.out).mono ?_
            rintro e w' ⟨rfl, rfl⟩
            go_wp2_with fail
            refine (HH2.out wr HB.out).mono ?_
            rintro e w' ⟨rfl, rfl⟩
            go_wp2_with fail
            go_roundg g2
            case measure => omega
            case rel => exact ⟨k + 1, _, _, rfl, rfl, by omega, by go_num, by rw [KA.out, KB.out]; exact HT.out, HG.out, HB.out⟩
          · have KA := Lib.hid (outK_no (A := XA) (B := XB) hx hx1)
            have KB := Lib.hid (outK_yes (A := XB) (B := XA) hy hy1)
            rw [decide_eq_true hx1] at HH1
            rw [decide_eq_false hy1] at HH2
            clear hx hy hx1 hy1 htw hgb hB
            generalize hLA : outK XA XB k = LA at *
            generalize hLB : outK XB XA k = LB at *
            clear hLA hLB
            go_wp2_with fail
            refine (HH1.out wr HB.out).mono ?_
            rintro e w' ⟨rfl, rfl⟩
            go_wp2_with fail
            refine (HH2.out wr HB.out).mono ?_
            rintro e w' ⟨rfl, rfl⟩
            go_wp2_with ((at_builtin; refine wpList_append_own_at _ rfl _ _ 25 rfl (w.heap.size) 3 i0 (.int .i64 0) 1 8 Tryd.underlying25 hi hz0 hz1 hz2 rfl (by decide) _ _ _ rfl ((HT.out.swap).1.alloc _) ⟨wr.heap.size, 0, none⟩ 1 1 [.int .i64 (y)] rfl rfl (cell_one_new _ _ _) (fun x hx => by simp at hx; subst hx; rfl) (by unfold maxLen; omega) (by omega) (by simp; omega) ?_; intro v2 w2 hown2 hgrow2 _ hl2); have hnb := HT.out.swap.push hown2 hgrow2 hl2; have HTb := Lib.hid (hnb.swap); have HBb := Lib.hid ((HB.out.alloc hszHB (.cells #[.int .i64 y] 3)).grown hgrow2 (by simp; omega) (fun p_ hp_ => ((HT.out.swap).1.lt p_ hp_).1)); have HGb := Lib.hid (mids.grown_blk (w := wr) (HT.out.swap).1 HG.out (by decide) hgrow2); have hszHBb := HBb.out.size; have rab := nearv.cell_keep QA.out HBb.out; have rbb := nearv.cell_keep QB.out HBb.out; clear hown2 hgrow2 hl2 hnb; obtain ⟨Ab_, cb_, rfl⟩ := own_form HTb.out.2.1)
            go_roundg g2
            case measure => omega
            case rel => exact ⟨k + 1, _, _, rfl, rfl, by omega, by go_num, by rw [KA.out, KB.out]; have h_ := HTb.out; (try simp only [List.length_append, List.length_singleton] at h_); exact h_, HGb.out, HBb.out⟩
        · by_cases hy1 : y ∈ XA
          · have KA := Lib.hid (outK_yes (A := XA) (B := XB) hx hx1)
            have KB := Lib.hid (outK_no (A := XB) (B := XA) hy hy1)
            rw [decide_eq_false hx1] at HH1
            rw [decide_eq_true hy1] at HH2
            clear hx hy hx1 hy1 htw hgb hB
            generalize hLA : outK XA XB k = LA at *
            generalize hLB : outK XB XA k = LB at *
            clear hLA hLB
            go_wp2_with fail
            refine (HH1.out wr HB.out).mono ?_
            rintro e w' ⟨rfl, rfl⟩
            go_wp2_with ((at_builtin; refine wpList_append_own_at _ rfl _ _ 25 rfl (w.heap.size) 3 i0 (.int .i64 0) 1 8 Tryd.underlying25 hi hz0 hz1 hz2 rfl (by decide) _ _ _ rfl ((HT.out).1.alloc _) ⟨wr.heap.size, 0, none⟩ 1 1 [.int .i64 (x)] rfl rfl (cell_one_new _ _ _) (fun x hx => by simp at hx; subst hx; rfl) (by unfold maxLen; omega) (by omega) (by simp; omega) ?_; intro v2 w2 hown2 hgrow2 _ hl2); have hna := HT.out.push hown2 hgrow2 hl2; have HTa := Lib.hid hna; have HBa := Lib.hid ((HB.out.alloc hszHB (.cells #[.int .i64 x] 3)).grown hgrow2 (by simp; omega) (fun p_ hp_ => ((HT.out).1.lt p_ hp_).1)); have HGa := Lib.hid (mids.grown_blk (w := wr) (HT.out).1 HG.out (by decide) hgrow2); have hszHBa := HBa.out.size; have raa := nearv.cell_keep QA.out HBa.out; have rba := nearv.cell_keep QB.out HBa.out; clear hown2 hgrow2 hl2 hna; obtain ⟨Aa_, ca_, rfl⟩ := own_form HTa.out.1)
            refine (HH2.out w2 HBa.out).mono ?_
            rintro e w' ⟨rfl, rfl⟩
            go_wp2_with fail
            go_roundg g2
            case measure => omega
            case rel => exact ⟨k + 1, _, _, rfl, rfl, by omega, by go_num, by rw [KA.out, KB.out]; have h_ := HTa.out; (try simp only [List.length_append, List.length_singleton] at h_); exact h_, HGa.out, HBa.out⟩
          · have KA := Lib.hid (outK_yes (A := XA) (B := XB) hx hx1)
            have KB := Lib.hid (outK_yes (A := XB) (B := XA) hy hy1)
            rw [decide_eq_false hx1] at HH1
            rw [decide_eq_false hy1] at HH2
            clear hx hy hx1 hy1 htw hgb hB
            generalize hLA : outK XA XB k = LA at *
            generalize hLB : outK XB XA k = LB at *
            clear hLA hLB
            go_wp2_with fail
            refine (HH1.out wr HB.out).mono ?_
            rintro e w' ⟨rfl, rfl⟩
            go_wp2_with ((at_builtin; refine wpList_append_own_at _ rfl _ _ 25 rfl (w.heap.size) 3 i0 (.int .i64 0) 1 8 Tryd.underlying25 hi hz0 hz1 hz2 rfl (by decide) _ _ _ rfl ((HT.out).1.alloc _) ⟨wr.heap.size, 0, none⟩ 1 1 [.int .i64 (x)] rfl rfl (cell_one_new _ _ _) (fun x hx => by simp at hx; subst hx; rfl) (by unfold maxLen; omega) (by omega) (by simp; omega) ?_; intro v2 w2 hown2 hgrow2 _ hl2); have hna := HT.out.push hown2 hgrow2 hl2; have HTa := Lib.hid hna; have HBa := Lib.hid ((HB.out.alloc hszHB (.cells #[.int .i64 x] 3)).grown hgrow2 (by simp; omega) (fun p_ hp_ => ((HT.out).1.lt p_ hp_).1)); have HGa := Lib.hid (mids.grown_blk (w := wr) (HT.out).1 HG.out (by decide) hgrow2); have hszHBa := HBa.out.size; have raa := nearv.cell_keep QA.out HBa.out; have rba := nearv.cell_keep QB.out HBa.out; clear hown2 hgrow2 hl2 hna; obtain ⟨Aa_, ca_, rfl⟩ := own_form HTa.out.1)
            refine (HH2.out w2 HBa.out).mono ?_
            rintro e w' ⟨rfl, rfl⟩
            obtain ⟨w3, hw3⟩ : ∃ w3, w3 = w2 := ⟨_, rfl⟩
            subst hw3
            go_wp2_with ((at_builtin; refine wpList_append_own_at _ rfl _ _ 25 rfl (w.heap.size) 3 i0 (.int .i64 0) 1 8 Tryd.underlying25 hi hz0 hz1 hz2 rfl (by decide) _ _ _ rfl ((HTa.out.swap).1.alloc _) ⟨w3.heap.size, 0, none⟩ 1 1 [.int .i64 (y)] rfl rfl (cell_one_new _ _ _) (fun x hx => by simp at hx; subst hx; rfl) (by unfold maxLen; omega) (by omega) (by simp; omega) ?_; intro v2 w2 hown2 hgrow2 _ hl2); have hnb := HTa.out.swap.push hown2 hgrow2 hl2; have HTb := Lib.hid (hnb.swap); have HBb := Lib.hid ((HBa.out.alloc hszHBa (.cells #[.int .i64 y] 3)).grown hgrow2 (by simp; omega) (fun p_ hp_ => ((HTa.out.swap).1.lt p_ hp_).1)); have HGb := Lib.hid (mids.grown_blk (w := w3) (HTa.out.swap).1 HGa.out (by decide) hgrow2); have hszHBb := HBb.out.size; have rab := nearv.cell_keep QA.out HBb.out; have rbb := nearv.cell_keep QB.out HBb.out; clear hown2 hgrow2 hl2 hnb; obtain ⟨Ab_, cb_, rfl⟩ := own_form HTb.out.2.1)
            go_roundg g2
            case measure => omega
            case rel => exact ⟨k + 1, _, _, rfl, rfl, by omega, by go_num, by rw [KA.out, KB.out]; have h_ := HTb.out; (try simp only [List.length_append, List.length_singleton] at h_); exact h_, HGb.out, HBb.out⟩
end Go.Proofs.YtdhbaegkogklgaaDoor.ups

/- The contract of the model's l8Choices. -/
namespace Go.Proofs.YtdhbaegkogklgaaDoor.ups
open Go.RowKit P2 words edges ints owns good adjs fns sets rets covs bitsI func apps grid gridr gridl trip lists
set_option linter.unusedVariables false

/-- a table of the call's own -/
def RetX (w : World) (rows : List (List Int)) (e : Ending) (w' : World) : Prop :=
  ∃ A c us, e = .returned (.slice A rows.length c) ∧ OwnG w' w.heap.size (.slice A rows.length c) us rows ∧ Below w.heap.size w w'
set_option maxHeartbeats 8000000 in
set_option maxRecDepth 100000 in
theorem l8Choices_any : ∀ (d : Nat), d ≤ 9 → ∀ (u : Value) (xs : List Int) (w : World), Ints w u xs → xs.length ≤ 8 →
    Calls Tryd.prog 89 #[u, .int .i64 (d : Int)] w (RetX w (chL xs d)) := by
  intro d
  induction d with
  | zero =>
    intro _ u xs w hu hxl
    have HO0 : Hid (OwnG ((w.alloc (.cells #[] 3)).alloc (.cells #[.slice (some ⟨w.heap.size, 0, none⟩) 0 0] 25)) w.heap.size (.slice (some ⟨w.heap.size + 1, 0, none⟩) 1 1) [.slice (some ⟨w.heap.size, 0, none⟩) 0 0] [[]]) := by
      have h_ := World.ownsRow_lit (size := 1) (base := w.heap.size) (e := 25) (w.alloc (.cells #[] 3)) #[.slice (some ⟨w.heap.size, 0, none⟩) 0 0] 1 (by simp) (by unfold maxLen; omega) rfl
      rw [World.size_alloc] at h_
      refine ⟨h_, ?_, ?_⟩
      · intro i u r hu hr
        cases i with
        | zero => cases hu; cases hr; exact (own_new0 w 3 1).alloc _
        | succ i => simp at hu
      · intro i j u u' k hij hu hu'
        cases j with
        | zero => omega
        | succ j => simp at hu'
    have HB0 : Hid (Below w.heap.size w ((w.alloc (.cells #[] 3)).alloc (.cells #[.slice (some ⟨w.heap.size, 0, none⟩) 0 0] 25))) := ((Below.refl _ _).alloc (Nat.le_refl _) _).alloc (by simp) _
    have HV : Hid (chL xs 0 = [[]]) := by show _ = _; unfold chL; rfl
    go_enter Tryd.func89, Tryd.ntmps89
    go_wp2_with fail
    go_ret
    rw [HV.out]
    exact ⟨_, _, _, rfl, HO0.out, HB0.out⟩
  | succ d ih =>
    intro hd u xs w hu hxl
    obtain ⟨i0, hi, hz0, hz1, hz2⟩ := info_parts infoInt
    obtain ⟨i1, hi1, hy0, hy1, hy2⟩ := info_parts infoRow
    have HIH := Lib.hid (ih (by omega))
    obtain ⟨A, c, rfl, hcx⟩ := hu.form
    have HU := Lib.hid hu
    have HCX := Lib.hid hcx
    have hwr : IntKind.i64.wrap (((d + 1 : Nat) : Int) - 1) = (d : Int) := by
      rw [show ((d + 1 : Nat) : Int) - 1 = (d : Int) from by omega]; exact IntWalk.i64_in _ (by omega)
    have d0 : (((d + 1 : Nat) : Int) == 0) = false := by simp; omega
    have hkk9 : ((d + 1 : Nat) : Int) ≤ 9 := by omega
    have hkk0 : 0 ≤ ((d + 1 : Nat) : Int) := by omega
    have HSH : Hid (∀ i : Nat, ¬ ((i : Int) + ((d + 1 : Nat) : Int) ≤ (xs.length : Int)) → chL (xs.drop i) (d + 1) = []) := fun i hh => chL_short _ _ (by rw [List.length_drop]; omega)
    have HLT : Hid (∀ i : Nat, ((i : Int) + ((d + 1 : Nat) : Int) ≤ (xs.length : Int)) → i < xs.length) := fun i hh => by omega
    generalize hkk : ((d + 1 : Nat) : Int) = kk at *
    have HTL : Hid ((chL xs (d + 1)).length ≤ 256) := by
      have := chL_len xs (d + 1)
      have h2 := Nat.pow_le_pow_right (show 0 < 2 by decide) hxl
      show _ ≤ _
      omega
    have HO0 : Hid (OwnG (w.alloc (.cells #[] 25)) w.heap.size (.slice (some ⟨w.heap.size, 0, none⟩) 0 0) [] []) := ⟨own_new0 w 25 1, fun i u r hu => by simp at hu, fun i j u u' k _ hu => by simp at hu⟩
    have HB0 : Hid (Below w.heap.size w (w.alloc (.cells #[] 25))) := (Below.refl _ _).alloc (Nat.le_refl _) _
    have HE0 : Hid (([] : List (List Int)) ++ chL (xs.drop 0) (d + 1) = chL xs (d + 1)) := rfl
    clear ih hkk hu hcx
    go_enter Tryd.func89, Tryd.ntmps89
    go_wp2_with fail
    go_loopg [5, 6] xs.length (fun g ov iv wr => ∃ (i : Nat) (ow : Value) (us : List Value) (O : List (List Int)), ow = ov ∧ i + g = xs.length ∧ iv = .int .i64 (i : Int) ∧ OwnG wr w.heap.size ow us O ∧ Hid (O ++ chL (xs.drop i) (d + 1) = chL xs (d + 1)) ∧ Below w.heap.size w wr)
    case atStart => exact ⟨0, _, [], [], rfl, by omega, rfl, HO0.out, HE0, HB0.out⟩
    case round =>
      clear HO0 HB0 HE0
      obtain ⟨i, ow, us, O, rfl, hig, rfl, hG, he, hB⟩ := hrel
      obtain ⟨A4, c4, rfl⟩ := own_form hG.1
      have hil : i ≤ xs.length := by omega
      have hwi : IntKind.i64.wrap ((i : Int) + kk) = (i : Int) + kk := IntWalk.i64_in _ (by omega)
      by_cases hle : (i : Int) + kk ≤ (xs.length : Int)
      · have hlt : i < xs.length := HLT.out i (by omega)
        obtain ⟨g2, rfl⟩ : ∃ g2, gk = g2 + 1 := ⟨gk - 1, by omega⟩
        obtain ⟨x, hx⟩ : ∃ x, xs[i]? = some x := ⟨_, List.getElem?_eq_getElem hlt⟩
        obtain ⟨gx, ox, rfl, cx0⟩ := HCX.out i x hx
        have HCX0 := Lib.hid cx0
        have HDR := Lib.hid (chL_drop hx d)
        have hdl : (xs.drop (i + 1)).length = xs.length - (i + 1) := List.length_drop
        have HRD : Hid (∀ W, Below w.heap.size w W → Reads W 1 (.slice (if c = i + 1 then some ⟨gx, ox, none⟩ else some ⟨gx, ox + (i + 1), none⟩) (xs.length - (i + 1)) (c - (i + 1))) (xs.length - (i + 1)) (cellsI (xs.drop (i + 1)))) := fun W hW => by
          have h2 := apps.Reads.drop (k := i + 1) (HU.out.below hW) (by omega)
          rw [apps.cellsI_drop, Nat.mul_one] at h2
          simpa [apps.addr_add] using h2
        have hcc := reads_cap HU.out (show i + 1 ≤ xs.length by omega)
        have HDL := Lib.hid hdl
        clear hdl
        obtain ⟨SA, sc, hsl, hif⟩ : ∃ SA sc, Hid (∀ W, Below w.heap.size w W → Reads W 1 (.slice SA (xs.length - (i + 1)) sc) (xs.length - (i + 1)) (cellsI (xs.drop (i + 1)))) ∧ ((c = i + 1 ∧ SA = some ⟨gx, ox, none⟩ ∧ sc = 0) ∨ (¬ c = i + 1 ∧ SA = some ⟨gx, ox + (i + 1), none⟩ ∧ sc = c - (i + 1))) := by
          refine ⟨_, _, HRD, ?_⟩
          by_cases h : c = i + 1
          · exact .inl ⟨h, by rw [if_pos h], by omega⟩
          · exact .inr ⟨h, by rw [if_neg h], rfl⟩
        clear HRD
        have hii : IntKind.i64.wrap ((i : Int) + 1) = (i : Int) + 1 := IntWalk.i64_in _ (by omega)
        obtain ⟨wo, hwo⟩ : ∃ wo, wo = wr := ⟨_, rfl⟩
        subst hwo
        have HCA : Hid (Calls Tryd.prog 89 #[.slice SA (xs.length - (i + 1)) sc, .int .i64 (d : Int)] wo (RetX wo (chL (xs.drop (i + 1)) d))) := by
          have h_ := hsl.out wo hB
          rw [← HDL.out] at h_ ⊢
          exact HIH.out _ _ wo h_ (by rw [HDL.out]; omega)
        have HG := Lib.hid hG
        have HBO := Lib.hid hB
        have HEO : Hid (O ++ (chL (xs.drop (i + 1)) d).map (x :: ·) ++ chL (xs.drop (i + 1)) (d + 1) = chL xs (d + 1)) := by
          show _ = _
          rw [← he.out, HDR.out, List.append_assoc]
        have hol : O.length + (chL (xs.drop (i + 1)) d).length ≤ 256 := by
          have h_ := congrArg List.length HEO.out
          rw [List.length_append, List.length_append, List.length_map] at h_
          have := HTL.out
          omega
        have HROW : Hid (∀ r ∈ chL (xs.drop (i + 1)) d, r.length = d) := fun r hr => chL_row _ _ r hr
        generalize chL (xs.drop (i + 1)) d = R at *
        clear hsl hG hB he cx0 hx
        rcases hif with ⟨hci, rfl, rfl⟩ | ⟨hne, rfl, rfl⟩
        all_goals
          (try subst hci)
          go_wp2_with fail
          refine HCA.out.mono ?_
          rintro e w5 ⟨A5, c5, us5, rfl, o5, b5⟩
          have HR := Lib.hid o5
          have HG5 := Lib.hid (HG.out.below b5)
          have HBW5 := Lib.hid (btrans HBO.out b5)
          have hg9 : Hid (OwnG w5 w.heap.size (.slice A4 O.length c4) us (O ++ (R.take 0).map (x :: ·))) := by
            show OwnG _ _ _ _ _
            rw [List.take_zero, List.map_nil, List.append_nil]; exact HG5.out
          have HSEP : Hid (∀ b, (Value.slice A4 O.length c4).ownBlock = some b → b < wo.heap.size ∨ w5.heap.size ≤ b) := fun b hb => .inl (HG.out.1.lt b hb).2
          have HIN : Hid (∀ b, (Value.slice A5 R.length c5).ownBlock = some b → wo.heap.size ≤ b ∧ b < w5.heap.size) := fun b hb => o5.1.lt b hb
          have hbo := HBO.out.size
          clear b5 o5
          go_wp2_with fail
          go_loopg [5, 8] R.length (fun g lv iv wr => ∃ (j : Nat) (lw : Value) (us : List Value), lw = lv ∧ j + g = R.length ∧ iv = .int .i64 (j : Int) ∧ OwnG wr w.heap.size lw us (O ++ (R.take j).map (x :: ·)) ∧
            OwnG wr wo.heap.size (.slice A5 R.length c5) us5 R ∧ Hid (∀ b, lw.ownBlock = some b → b < wo.heap.size ∨ w5.heap.size ≤ b) ∧ Below w.heap.size w wr ∧ w5.heap.size ≤ wr.heap.size)
          case atStart => exact ⟨0, _, us, rfl, by omega, rfl, hg9.out, HR.out, HSEP, HBW5.out, Nat.le_refl _⟩
          case round =>
            clear hg9 HSEP HR HG5
            obtain ⟨j, lw, us, rfl, hjg, rfl, hG, hR, hsep, hB, hsz⟩ := hrel
            cases gk with
            | zero =>
              obtain rfl : j = R.length := by omega
              rw [List.take_length] at hG
              have HG9 := Lib.hid hG
              clear hG hR
              go_wp2_with fail
              go_roundg g2
              case measure => omega
              case rel => exact ⟨i + 1, _, us, _, rfl, by omega, by go_num, HG9.out, HEO, hB⟩
            | succ g3 =>
              have hjl : j < R.length := by omega
              have hjl' : (j : Int) < (R.length : Int) := by omega
              obtain ⟨L, hL⟩ : ∃ L, R[j]? = some L := ⟨_, List.getElem?_eq_getElem hjl⟩
              obtain ⟨u, g, o, hu, hAx, c0, hru⟩ := (gridl.readsG_of_own hR).row hL
              subst hAx
              obtain ⟨Ar, cr, rfl, -⟩ := hru.form
              have hLk : L.length ≤ 9 := by have := HROW.out L (List.mem_of_getElem? hL); omega
              have HRW : Hid (O ++ (R.take (j + 1)).map (x :: ·) = (O ++ (R.take j).map (x :: ·)) ++ [x :: L]) := by
                show _ = _
                rw [take_cons x hL, ← List.append_assoc]
              have hrows : (O ++ (R.take j).map (x :: ·)).length ≤ 600 := by
                rw [List.length_append, List.length_map, List.length_take]; omega
              have hHR : Hid (∀ W, Below wr.heap.size wr W → Ints W (.slice Ar L.length cr) L) := fun W hW => hru.below hW
              have HO1 : Hid (((wr.alloc (.cells #[.int .i64 x] 3)).drew).ownsRow wr.heap.size 3 1 (.slice (some ⟨wr.heap.size, 0, none⟩) 1 1) 1 (cellsI [x])) := (own_new1 wr 3 x).drew
              have hcl : Hid ((cellsI L).length = L.length * 1) := by show _ = _; simp [cellsI]
              have HB1 : Hid (Below wr.heap.size wr ((wr.alloc (.cells #[.int .i64 x] 3)).drew)) := ((Below.refl _ _).alloc (Nat.le_refl _) _).drew
              obtain ⟨A4, c4, rfl⟩ := own_form hG.1
              have q1 := nearv.cell_keep HCX0.out hB
              have HG := Lib.hid hG
              have HR := Lib.hid hR
              have HB := Lib.hid hB
              have hwb := hB.size
              clear hL hG hR hru hB hjl
              generalize O ++ (R.take j).map (x :: ·) = rows at *
              go_wp2_with fail
              refine wp_region_held_drew (S := (fun w' : World => w'.cell? ⟨gx, ox + i, none⟩ = some (.int .i64 x) ∧ w'.cell? ⟨g, o + j, none⟩ = some (.slice Ar L.length cr))) (by kernel_rfl) (by (try dsimp only); simp [*]) (fun hHeld => ?_)
              change wpAnyH _ _ _ _ _ _ #[false, false, false, false, false, false, false, false, false, false, false, false, false, false] _ _
              refine wpAnyH_take (i := 0) (oi := ⟨some 35, _, _, _, _, _⟩) (v := ?_) rfl (by kernel_rfl) (by kernel_rfl) (by kernel_rfl) (fun _ _ _ h => h) (Or.inl ⟨by rfl, ?_⟩) (by assumption) ?_
              rotate_left
              · (intro w hSw; (try dsimp only at hSw); go_simp; (try (with_reducible rfl)))
              try simp only [Act.put, List.setIfInBounds_toArray, List.set_cons_zero, List.set_cons_succ]
              refine wpAnyH_take (i := 1) (oi := ⟨some 36, _, _, _, _, _⟩) (v := ?_) rfl (by kernel_rfl) (by kernel_rfl) (by kernel_rfl) (fun _ _ _ h => h) (Or.inl ⟨by rfl, ?_⟩) (by assumption) ?_
              rotate_left
              · (intro w hSw; (try dsimp only at hSw); go_simp; (try (with_reducible rfl)))
              try simp only [Act.put, List.setIfInBounds_toArray, List.set_cons_zero, List.set_cons_succ]
              refine wpAnyH_take (i := 2) (oi := ⟨some 37, _, _, _, _, _⟩) (v := ?_) rfl (by kernel_rfl) (by kernel_rfl) (by kernel_rfl) (fun _ _ _ h => h) (Or.inl ⟨by rfl, ?_⟩) (by assumption) ?_
              rotate_left
              · (intro w hSw; (try dsimp only at hSw); go_simp; (try (with_reducible rfl)))
              try simp only [Act.put, List.setIfInBounds_toArray, List.set_cons_zero, List.set_cons_succ]
              refine wpAnyH_take (i := 3) (oi := ⟨some 38, _, _, _, _, _⟩) (v := ?_) rfl (by kernel_rfl) (by kernel_rfl) (by kernel_rfl) (fun _ _ _ h => h) (Or.inl ⟨by rfl, ?_⟩) (by assumption) ?_
              rotate_left
              · (intro w hSw; (try dsimp only at hSw); go_simp; (try (with_reducible rfl)))
              try simp only [Act.put, List.setIfInBounds_toArray, List.set_cons_zero, List.set_cons_succ]
              refine wpAnyH_take (i := 4) (oi := ⟨some 39, _, _, _, _, _⟩) (v := ?_) rfl (by kernel_rfl) (by kernel_rfl) (by kernel_rfl) (fun _ _ _ h => h) (Or.inl ⟨by rfl, ?_⟩) (by assumption) ?_
              rotate_left
              · (intro w hSw; (try dsimp only at hSw); go_simp; (try (with_reducible rfl)))
              try simp only [Act.put, List.setIfInBounds_toArray, List.set_cons_zero, List.set_cons_succ]
              refine wpAnyH_take (i := 6) (oi := ⟨some 41, _, _, _, _, _⟩) (v := ?_) rfl (by kernel_rfl) (by kernel_rfl) (by kernel_rfl) (fun _ _ _ h => h) (Or.inl ⟨by rfl, ?_⟩) (by assumption) ?_
              rotate_left
              · (intro w hSw; (try dsimp only at hSw); go_simp; (try (with_reducible rfl)))
              try simp only [Act.put, List.setIfInBounds_toArray, List.set_cons_zero, List.set_cons_succ]
              refine wpAnyH_take (i := 7) (oi := ⟨some 42, _, _, _, _, _⟩) (v := ?_) rfl (by kernel_rfl) (by kernel_rfl) (by kernel_rfl) (fun _ _ _ h => h) (Or.inl ⟨by rfl, ?_⟩) (by assumption) ?_
              rotate_left
              · (intro w hSw; (try dsimp only at hSw); go_simp; (try (with_reducible rfl)))
              try simp only [Act.put, List.setIfInBounds_toArray, List.set_cons_zero, List.set_cons_succ]
              refine wpAnyH_take (i := 8) (oi := ⟨some 43, _, _, _, _, _⟩) (v := ?_) rfl (by kernel_rfl) (by kernel_rfl) (by kernel_rfl) (fun _ _ _ h => h) (Or.inl ⟨by rfl, ?_⟩) (by assumption) ?_
              rotate_left
              · (intro w hSw; (try dsimp only at hSw); go_simp; (try (with_reducible rfl)))
              try simp only [Act.put, List.setIfInBounds_toArray, List.set_cons_zero, List.set_cons_succ]
              refine wpAnyH_take (i := 9) (oi := ⟨some 44, _, _, _, _, _⟩) (v := ?_) rfl (by kernel_rfl) (by kernel_rfl) (by kernel_rfl) (fun _ _ _ h => h) (Or.inl ⟨by rfl, ?_⟩) (by assumption) ?_
              rotate_left
              · (intro w hSw; (try dsimp only at hSw); go_simp; (try (with_reducible rfl)))
              try simp only [Act.put, List.setIfInBounds_toArray, List.set_cons_zero, List.set_cons_succ]
              refine wpAnyH_ready (rs := [5]) (by kernel_rfl) (by simp) ?_
              refine AllReadyH.cons rfl (fun K hK => ?_) AllReadyH.nil
              go_simp
              refine hK.out _ _ (⟨nearv.cell_keep q1 HB1.out, nearv.cell_keep c0 HB1.out⟩) (fun hHeld => ?_)
              clear hK K
              try simp only [List.setIfInBounds_toArray, List.set_cons_zero, List.set_cons_succ]
              refine wpAnyH_ready (rs := [10]) (by kernel_rfl) (by simp) ?_
              refine AllReadyH.cons rfl (fun K hK => ?_) AllReadyH.nil
              (refine step_append_any _ rfl (.tmp 40) (.tmp 44) 25 rfl wr.heap.size 3 i0 (.int .i64 0) 1 8 Tryd.underlying25 hi hz0 hz1 hz2 rfl (by decide) (.slice (some ⟨wr.heap.size, 0, none⟩) 1 1) 1 (cellsI [x]) rfl HO1.out (.slice Ar L.length cr) L.length (cellsI L) rfl (hHR.out _ HB1.out) hcl.out (oneI _) (by unfold maxLen; omega) (by omega) HB1.out.size ?_; intro v2 w6 o6 gr6; have hB6 : Below wr.heap.size wr w6 := HB1.out.grown gr6 (by simp) (fun j e => (HO1.out.lt j e).1); have o7 : w6.ownsRow wr.heap.size 3 1 v2 (x :: L).length (cellsI (x :: L)) := by { have h_ := o6; rw [show 1 + L.length = (x :: L).length from by simp; omega] at h_; exact h_ }; clear o6 gr6; obtain ⟨A6, c6, rfl⟩ := own_form o7; have hs6 := hB6.size; have hB7 : Below wr.heap.size wr (w6.alloc (.cells #[.slice A6 (x :: L).length c6] 25)) := hB6.alloc hs6 _; have hown5 := (HG.out.below hB6).1; have hul : us.length ≤ 600 := (HG.out.len ▸ hrows))
              refine hK.out _ _ (⟨nearv.cell_keep q1 hB6, nearv.cell_keep c0 hB6⟩) (fun hHeld => ?_)
              clear hK K
              try simp only [Act.put, List.setIfInBounds_toArray, List.set_cons_zero, List.set_cons_succ]
              refine wpAnyH_ready (rs := [11]) (by kernel_rfl) (by simp) ?_
              refine AllReadyH.cons rfl (fun K hK => ?_) AllReadyH.nil
              go_simp
              refine hK.out _ _ (⟨nearv.cell_keep q1 hB7, nearv.cell_keep c0 hB7⟩) (fun hHeld => ?_)
              clear hK K
              try simp only [List.setIfInBounds_toArray, List.set_cons_zero, List.set_cons_succ]
              refine wpAnyH_ready (rs := [12]) (by kernel_rfl) (by simp) ?_
              refine AllReadyH.cons rfl (fun K hK => ?_) AllReadyH.nil
              (refine step_append_lies _ rfl (.tmp 35) (.tmp 46) 40 rfl w.heap.size 25 i1 (.slice none 0 0) 1 24 Tryd.underlying40 hi1 hy0 hy1 hy2 rfl (by decide) (.slice A4 rows.length c4) rows.length us rfl (hown5.alloc _) ⟨w6.heap.size, 0, none⟩ 1 1 [.slice A6 (x :: L).length c6] rfl rfl (cell_one_new _ _ _) (fun x hx => by simp at hx; subst hx; rfl) (by decide) (by unfold maxLen; omega) (by omega) (by simp; omega) (w6.heap.size + 1) (by simp) ?_; intro g8 cap8 w7 hown7 hgrow7 lies7 lt7; have hR6 := HR.out.below hB6; have hR7 := keepG (hR6.below ((Below.refl w6.heap.size w6).alloc (Nat.le_refl _) (.cells #[.slice A6 (x :: L).length c6] 25))) (hown5.alloc _) (fun b hb e => by { have h1 := HIN.out b hb; have h2 := hsep.out b e; omega }) hgrow7; have e7 : Below w.heap.size w w7 := ((btrans HB.out hB7).grown hgrow7 (by simp; omega) (fun j e => (hown5.lt j e).1)); have q3 := nearv.cell_keep HCX0.out e7; have hc7 : w7.cell? ⟨g, o + j, none⟩ = some (.slice Ar L.length cr) := by { obtain ⟨g_, hga, hc_, -, -⟩ := own_at hR7.1 hu; simp only [Option.some.injEq, Addr.mk.injEq, and_true] at hga; rw [hga.1, hga.2, Nat.zero_add]; exact hc_ })
              refine hK.out _ _ (⟨q3, hc7⟩) (fun hHeld => ?_)
              clear hK K
              try simp only [Act.put, List.setIfInBounds_toArray, List.set_cons_zero, List.set_cons_succ]
              refine wpAnyH_take (i := 13) (oi := ⟨some 5, _, _, _, _, _⟩) (v := ?_) rfl (by kernel_rfl) (by kernel_rfl) (by kernel_rfl) (fun _ _ _ h => h) (Or.inl ⟨by rfl, ?_⟩) (by assumption) ?_
              rotate_left
              · (intro w hSw; (try dsimp only at hSw); go_simp; (try (with_reducible rfl)))
              try simp only [Act.put, List.setIfInBounds_toArray, List.set_cons_zero, List.set_cons_succ]
              refine wpAnyH_done (by kernel_rfl) ?_ _
              have HG7 := Lib.hid (OwnG.push HG.out hB6 hwb o7 hown7 rfl hgrow7)
              have HR7 := Lib.hid hR7
              have HB7 := Lib.hid e7
              have hge7 : w6.heap.size ≤ w7.heap.size := by
                have := hgrow7.size
                simp at this; omega
              have HSP : Hid (∀ b, (Value.slice (some ⟨g8, 0, none⟩) (rows.length + 1) cap8).ownBlock = some b → b < wo.heap.size ∨ w5.heap.size ≤ b) := fun b hb => by
                have hb8 : g8 = b := by simpa [Value.ownBlock] using hb
                rcases lies7 with h1 | h1
                · exact hsep.out b (by rw [← hb8]; exact h1)
                · right; omega
              clear hown7 hgrow7 hown5 hR6 hR7 e7 hB6 hB7 o7 q1 q3 hc7 c0 hHeld lies7
              go_wp2_with fail
              go_roundg g3
              case measure => omega
              case rel => exact ⟨j + 1, _, _, rfl, by omega, by go_num, by rw [HRW.out]; exact HG7.out, HR7.out, HSP, HB7.out, by omega⟩
      · have HV : Hid (chL xs (d + 1) = O) := by
          show _ = _
          rw [← he.out, HSH.out i (by omega), List.append_nil]
        have HG := Lib.hid hG
        clear hG
        go_wp2_with fail
        go_ret
        rw [HV.out]
        exact ⟨A4, c4, us, rfl, HG.out, hB⟩
end Go.Proofs.YtdhbaegkogklgaaDoor.ups

/- The contracts of the model's l1Same and l4At over lists of any length. -/
namespace Go.Proofs.YtdhbaegkogklgaaDoor.ups
open Go.RowKit P2 words edges ints good adjs fns sets gridr grid
set_option linter.unusedVariables false

set_option maxHeartbeats 2000000 in
set_option maxRecDepth 100000 in
theorem l1SameI_any (u v : Value) (a b : List Int) (w : World) (hu : Ints w u a) (hv : Ints w v b) (ha : a.length ≤ 1048576) (hb : b.length ≤ 1048576) :
    Calls Tryd.prog 92 #[u, v] w fun e w' => e = .returned (.bool (decide (a = b))) ∧ Below w.heap.size w w' := by
  obtain ⟨A1, c1, rfl, hc1⟩ := hu.form
  obtain ⟨A2, c2, rfl, hc2⟩ := hv.form
  have HC1 := Lib.hid hc1
  have HC2 := Lib.hid hc2
  clear hu hv hc1 hc2
  by_cases hl : a.length = b.length
  · have HL := Lib.hid hl
    have hq0 : ((a.length : Int) != (b.length : Int)) = false := by rw [hl]; simp
    have hq1 : ((a.length : Int) == (b.length : Int)) = true := by rw [hl]; simp
    have hq2 : (a.length == b.length) = true := by rw [hl]; simp
    have HE0 : Hid (a.take 0 = b.take 0) := rfl
    clear hl
    go_enter Tryd.func92, Tryd.ntmps92
    go_wp2_with fail
    go_loopg [5] a.length (fun g i wr => ∃ k : Nat, k + g = a.length ∧ i = .int .i64 (k : Int) ∧ Hid (a.take k = b.take k) ∧ Below w.heap.size w wr)
    case atStart => exact ⟨0, by omega, rfl, HE0, Below.refl _ _⟩
    case round =>
      clear HE0
      obtain ⟨k, hkg, rfl, hr, hB⟩ := hrel
      cases gk with
      | zero =>
        obtain rfl : k = a.length := by omega
        have HV : Hid (decide (a = b) = true) := by
          show _ = _
          have h1 := hr.out
          rw [List.take_length, HL.out, List.take_length] at h1
          exact decide_eq_true h1
        go_wp2_with fail
        go_ret
        rw [HV.out]
        exact ⟨rfl, hB⟩
      | succ gg =>
        have hlt : k < a.length := by omega
        have hlt' : (k : Int) < (a.length : Int) := by omega
        have hlb' : (k : Int) < (b.length : Int) := by rw [← HL.out]; omega
        obtain ⟨x, hx⟩ : ∃ x, a[k]? = some x := ⟨_, List.getElem?_eq_getElem hlt⟩
        obtain ⟨y, hy⟩ : ∃ y, b[k]? = some y := ⟨_, List.getElem?_eq_getElem (by have := HL.out; omega)⟩
        obtain ⟨g1, o1, rfl, q1⟩ := HC1.out k _ hx
        obtain ⟨g2, o2, rfl, q2⟩ := HC2.out k _ hy
        have r1 := nearv.cell_keep q1 hB
        have r2 := nearv.cell_keep q2 hB
        have HB := Lib.hid (fun nq => below_drewN hB nq)
        by_cases hxy : x = y
        · subst hxy
          have HK : Hid (a.take (k + 1) = b.take (k + 1)) := by
            show _ = _
            rw [List.take_add_one, List.take_add_one, hx, hy, hr.out]
          have d0 : (x != x) = false := by simp
          clear hx hy q1 q2 hB
          go_wp2_with fail
          go_quiet (fail)
          go_wp2_with fail
          go_roundg gg
          case measure => omega
          case rel => exact ⟨k + 1, by omega, by go_num, HK, HB.out _⟩
        · have HV : Hid (decide (a = b) = false) := decide_eq_false fun e => hxy (by rw [e, hy] at hx; cases hx; rfl)
          have d0 : (x != y) = true := by simpa using hxy
          clear hx hy q1 q2 hB
          go_wp2_with fail
          go_quiet (fail)
          go_wp2_with fail
          go_ret
          rw [HV.out]
          exact ⟨rfl, HB.out _⟩
  · have HV : Hid (decide (a = b) = false) := decide_eq_false fun e => hl (by rw [e])
    have hq0 : ((a.length : Int) != (b.length : Int)) = true := by
      have h_ : ((a.length : Int) == (b.length : Int)) = false := by rw [beq_eq_false_iff_ne]; omega
      show (!((a.length : Int) == (b.length : Int))) = true
      rw [h_]; rfl
    have hq1 : ((a.length : Int) == (b.length : Int)) = false := by rw [beq_eq_false_iff_ne]; omega
    have hq2 : (a.length == b.length) = false := by rw [beq_eq_false_iff_ne]; exact hl
    clear hl
    go_enter Tryd.func92, Tryd.ntmps92
    go_wp2_with fail
    go_ret
    rw [HV.out]
    exact ⟨rfl, Below.refl _ _⟩
set_option maxHeartbeats 2000000 in
set_option maxRecDepth 100000 in
theorem l4AtI_any (t v : Value) (us : List Value) (rows : List (List Int)) (x : List Int) (m : Nat) (w : World) (ht : ReadsG w t us rows) (hv : Ints w v x) (hx : rows[m]? = some x) (hfst : ∀ j y, j < m → rows[j]? = some y → y ≠ x) (hlr : ∀ r ∈ rows, r.length ≤ 1048576) (hL : rows.length ≤ 1048576) :
    Calls Tryd.prog 40 #[t, v] w fun e w' => e = .returned (.int .i64 (m : Int)) ∧ Below w.heap.size w w' := by
  obtain ⟨At, ct, rfl, -⟩ := ht.1
  obtain ⟨A2, c2, rfl, -⟩ := hv.form
  have HT := Lib.hid ht
  have HV := Lib.hid hv
  have HX := Lib.hid hx
  have HF := Lib.hid hfst
  have HLR := Lib.hid hlr
  have hml := (List.getElem?_eq_some_iff.1 hx).1
  have hxl : x.length ≤ 1048576 := hlr x (List.mem_of_getElem? hx)
  clear ht hv hx hfst hlr
  go_enter Tryd.func40, Tryd.ntmps40
  go_wp2_with fail
  go_loopg [5] m (fun g i wr => ∃ k : Nat, k + g = m ∧ i = .int .i64 (k : Int) ∧ Below w.heap.size w wr)
  case atStart => exact ⟨0, by omega, rfl, Below.refl _ _⟩
  case round =>
    obtain ⟨k, hkg, rfl, hB⟩ := hrel
    have hkl : k < rows.length := by omega
    have hkl' : (k : Int) < (rows.length : Int) := by omega
    obtain ⟨y, hy⟩ : ∃ y, rows[k]? = some y := ⟨_, List.getElem?_eq_getElem hkl⟩
    obtain ⟨u, g5, o5, hu5, hA5, c5, hu⟩ := (HT.out.below hB).row hy
    subst hA5
    obtain ⟨Ax, cx, rfl, -⟩ := hu.form
    have HS := Lib.hid (l1SameI_any (.slice Ax y.length cx) (.slice A2 x.length c2) y x wr hu (HV.out.below hB) (HLR.out y (List.mem_of_getElem? hy)) hxl)
    have HB := Lib.hid hB
    cases gk with
    | zero =>
      obtain rfl : k = m := by omega
      have hyx : y = x := by have := HX.out; rw [hy] at this; cases this; rfl
      rw [decide_eq_true hyx] at HS
      clear hy hu hu5 hB hyx
      go_wp2_with fail
      refine HS.out.mono ?_
      rintro e w1 ⟨rfl, b1⟩
      go_wp2_with fail
      go_ret
      exact ⟨rfl, btrans HB.out b1⟩
    | succ g2 =>
      have hyx : y ≠ x := HF.out k y (by omega) hy
      rw [decide_eq_false hyx] at HS
      clear hy hu hu5 hB hyx
      go_wp2_with fail
      refine HS.out.mono ?_
      rintro e w1 ⟨rfl, b1⟩
      have HB1 := Lib.hid (btrans HB.out b1)
      clear b1 c5
      go_wp2_with fail
      go_roundg g2
      case measure => omega
      case rel => exact ⟨k + 1, by omega, by go_num, HB1.out⟩
end Go.Proofs.YtdhbaegkogklgaaDoor.ups
