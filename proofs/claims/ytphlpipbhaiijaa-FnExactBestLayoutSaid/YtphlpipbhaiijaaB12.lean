/- The best layout: the contract of the model's BestLayout. -/
import Derived.Handy
import Derived.Test.YtphlpipbhaiijaaB11
import Derived.Deep.DeepCutAuto
import Derived.Deep.RegionHeld3
import Derived.Test.YtphlpipbhaiijaaProg
import Derived.Test.YtphlpipbhaiijaaB01
import Derived.Deep.Slices
import Derived.Lib.SmallJoins
import Derived.OpenShut
namespace Go.Proofs.Ytphlpipbhaiijaa.costs
open Go.RowKit P2 words edges ints good adjs fns sets rets covs reach bags balls bitsI fronts
set_option linter.unusedVariables false

theorem Ch.mono {n : Nat} {cost : Nat → Nat → Int} {u v : Int} {c d : Nat} (h : Ch n cost u c d) (huv : u ≤ v) : Ch n cost v c d := by
  induction h with
  | refl => exact .refl _
  | step _ hx hb hc ih => exact .step ih hx hb (by omega)
theorem ch_all {n : Nat} {cost : Nat → Nat → Int} {u : Int} (hc : ∀ g x, cost g x ≤ u) : ∀ k, k ≤ n → Ch n cost u 0 (2 ^ k - 1)
  | 0, _ => .refl _
  | k + 1, hk => by
    have h1 := ch_all (n := n) hc k (by omega)
    have e : (2 ^ k - 1) ||| 2 ^ k = 2 ^ (k + 1) - 1 := by
      apply Nat.eq_of_testBit_eq
      intro i
      rw [Nat.testBit_or, Nat.testBit_two_pow_sub_one, Nat.testBit_two_pow, Nat.testBit_two_pow_sub_one]
      by_cases h : i < k
      · simp [h]; omega
      · by_cases h2 : k = i
        · subst h2; simp
        · simp [h, h2]; omega
    rw [← e]
    exact .step h1 (by omega) (by rw [Nat.testBit_two_pow_sub_one]; simp) (hc _ _)
theorem least_ex {n : Nat} {cost : Nat → Nat → Int} {nil : Int} (hc : ∀ g x, cost g x ≤ 100) (h0 : nil ≤ 100) : ∃ v, Least n cost nil v := by
  have hex : ∃ k : Nat, Ch n cost (nil + (k : Int)) 0 (2 ^ n - 1) := ⟨(100 - nil).toNat, by
    rw [show nil + (((100 - nil).toNat : Nat) : Int) = 100 from by omega]
    exact ch_all hc n (Nat.le_refl _)⟩
  obtain ⟨k, hk, hmin⟩ : ∃ k : Nat, Ch n cost (nil + (k : Int)) 0 (2 ^ n - 1) ∧ ∀ j : Nat, j < k → ¬ Ch n cost (nil + (j : Int)) 0 (2 ^ n - 1) := by
    obtain ⟨k, hk⟩ := hex
    induction k using Nat.strongRecOn with
    | _ k ih =>
      by_cases hy : ∃ j, j < k ∧ Ch n cost (nil + (j : Int)) 0 (2 ^ n - 1)
      · obtain ⟨j, h1, h2⟩ := hy
        exact ih j h1 h2
      · exact ⟨k, hk, fun j h1 h2 => hy ⟨j, h1, h2⟩⟩
  refine ⟨nil + (k : Int), by omega, fun u hu => ⟨fun h => hk.mono h, fun h => ?_⟩⟩
  apply Classical.byContradiction
  intro hn
  refine hmin (u - nil).toNat (by omega) ?_
  rw [show nil + (((u - nil).toNat : Nat) : Int) = u from by omega]
  exact h
theorem pw_least (n : Nat) (l : List Ed) (hn : n ≤ 8) : Least n (frontC l n) 0 (pwV (n : Int) l) := by
  obtain ⟨v, hv⟩ := least_ex (n := n) (cost := frontC l n) (nil := 0) (frontC_le l n hn) (by omega)
  have e : pwV (n : Int) l = leastV n (frontC l n) 0 := rfl
  rw [e, hv.is]; exact hv
theorem front_none (l : List Ed) (n : Nat) : frontN l n 0 = 0 := by
  unfold frontN
  have : nw (frontB l n (bitB 0)) n = nw (fun _ => false) n := reach.nw_congr fun z _ => by
    unfold frontB bitB
    simp
  rw [this, nw_none]; rfl
set_option maxHeartbeats 2000000 in
set_option maxRecDepth 100000 in
theorem specLayout_any (s : Int) (v : Value) (l : List Ed) (w : World) (h : Edges w v l) (hl : l.length ≤ 1048576) (hs1 : -9223372036854775808 ≤ s) (hs2 : s ≤ 9223372036854775807) :
    Calls Try.prog 41 #[.agg #[.int .i64 s, v]] w (RetI w (P2.Good s l) (blL s l)) := by
  obtain ⟨A, cA, rfl, -⟩ := h.form
  have H := Lib.hid h
  have b0 : Below w.heap.size w (w.alloc (.cells #[.int .i64 s, .slice A l.length cA] 29)) := (Below.refl _ _).alloc (Nat.le_refl _) _
  have g0 := Blk.new w 29 #[.int .i64 s, .slice A l.length cA]
  have HG := Lib.hid (l2Good_any s _ l _ (h.below b0) hl hs1 hs2)
  clear h
  by_cases hgd : P2.Good s l
  · rw [goodB_yes hgd] at HG
    have h0 := hgd.1
    have h8 := hgd.2.1
    obtain ⟨n, rfl⟩ : ∃ n : Nat, s = (n : Int) := ⟨s.toNat, by omega⟩
    have hn : n ≤ 8 := by omega
    have HGD := Lib.hid hgd
    have hle := pw_least n l hn
    have hch := (hle.2 _ hle.1).1 (Int.le_refl _)
    have hP : Ch n (frontC l n) (pwV (n : Int) l) 0 (2 ^ n - 1) ∧ frontN l n 0 ≤ pwV (n : Int) l := ⟨hch, by rw [front_none]; exact hle.1⟩
    have HBE : Hid (([] : List Int) ++ greL n (fitV n (frontC l n) (pwV (n : Int) l)) n 0 = blL (n : Int) l) := by
      show _ = _
      unfold blL
      rw [Int.toNat_natCast, gre_ord (j := n) (k := 0) (g := 0) (L := []) (by omega) rfl hch]
    have HSE : Hid (∀ (W : World) (b : Nat), Below w.heap.size w W → W.ownsRow w.heap.size 3 1 (.slice (some ⟨b, 0, none⟩) 0 0) 0 [] → Calls Try.prog 86 #[.agg #[.int .i64 (n : Int), .slice A l.length cA], .slice (some ⟨b, 0, none⟩) 0 0, .int .i64 (pwV (n : Int) l)] W fun e w' => ∃ A c, e = .returned (.tuple #[.slice A (blL (n : Int) l).length c, .bool true]) ∧ w'.ownsRow w.heap.size 3 1 (.slice A (blL (n : Int) l).length c) (blL (n : Int) l).length (cellsI (blL (n : Int) l)) ∧ Below W.heap.size W w') := fun W b hW ho => by
      have h_ := l6Search_any n (pwV (n : Int) l) A cA l hl hn n [] 0 0 w.heap.size (some ⟨b, 0, none⟩) 0 W (H.out.below hW) rfl (by omega) (SetL.nil n) hW.size ho
      unfold SeaR at h_
      rw [inG_yes hP, okG_yes hP, HBE.out] at h_
      exact h_
    have HPW := Lib.hid (fun (W : World) (hW : Below w.heap.size w W) => l6Pathwidth_any n (.slice A l.length cA) l W (H.out.below hW) hl hn)
    clear hgd hle hch hP
    go_enter Try.func41, Try.ntmps41
    go_wp2_with fail
    refine HG.out.mono ?_
    rintro e w1 ⟨rfl, b1⟩
    have HE1 := Lib.hid (btrans b0 b1)
    have HG1 := Lib.hid (g0.below b1 g0.lt)
    clear HG b0 b1 g0
    obtain ⟨p0, p1, -, -⟩ := HG1.out.two
    go_wp2_with fail
    refine wp_region_held_drew (S := (fun w' : World => w'.cell? ⟨w.heap.size, 0, none⟩ = some (.int .i64 (n : Int)) ∧ w'.cell? ⟨w.heap.size, 1, none⟩ = some (.slice A l.length cA))) (by kernel_rfl) (by (try dsimp only); simp [*]) (fun hHeld => ?_)
    change wpAnyH _ _ _ _ _ _ #[false, false, false, false, false, false, false, false, false] _ _
    refine wpAnyH_take (i := 0) (oi := ⟨some 8, _, _, _, _, _⟩) (v := ?_) rfl (by kernel_rfl) (by kernel_rfl) (by kernel_rfl) (fun _ _ _ h => h) (Or.inl ⟨by rfl, ?_⟩) (by assumption) ?_
    rotate_left
    · (intro w hSw; (try dsimp only at hSw); go_simp; (try (with_reducible rfl)))
    try simp only [Act.put, List.setIfInBounds_toArray, List.set_cons_zero, List.set_cons_succ]
    refine wpAnyH_take (i := 2) (oi := ⟨some 10, _, _, _, _, _⟩) (v := ?_) rfl (by kernel_rfl) (by kernel_rfl) (by kernel_rfl) (fun _ _ _ h => h) (Or.inl ⟨by rfl, ?_⟩) (by assumption) ?_
    rotate_left
    · (intro w hSw; (try dsimp only at hSw); go_simp; (try (with_reducible rfl)))
    try simp only [Act.put, List.setIfInBounds_toArray, List.set_cons_zero, List.set_cons_succ]
    refine wpAnyH_ready (rs := [1, 3]) (by kernel_rfl) (by simp) ?_
    refine AllReadyH.cons (o := ⟨some 9, _, _, _, _, _⟩) rfl (fun K hK => ?_) (AllReadyH.cons (o := ⟨some 11, _, _, _, _, _⟩) rfl (fun K hK => ?_) AllReadyH.nil)
    focus
      go_simp
      refine hK.out _ _ ⟨keep_al p0, keep_al p1⟩ (fun hHeld => ?_)
      clear hK K
      have HBA : Hid (Below w.heap.size w (w1.alloc (.cells #[] 3)).drew) := (HE1.out.alloc HE1.out.size _).drew
      refine wpAnyH_ready (rs := [3]) (by kernel_rfl) (by simp) ?_
      refine AllReadyH.cons (o := ⟨some 11, _, _, _, _, _⟩) rfl (fun K hK => ?_) AllReadyH.nil
      go_simp
      refine (HPW.out _ HBA.out).mono ?_; rintro e w4 ⟨rfl, b4⟩; have HE4 := Lib.hid (btrans HBA.out b4); have d4 : Below w1.heap.size w1 w4 := ((Below.refl w1.heap.size w1).alloc (Nat.le_refl _) _).drew.trans (b4.mono (by show w1.heap.size ≤ (w1.alloc _).heap.size; rw [World.size_alloc]; omega)); have HG4 := Lib.hid (HG1.out.below d4 HG1.out.lt); obtain ⟨k0, k1, -, -⟩ := HG4.out.two; have HO4 : Hid (w4.ownsRow w.heap.size 3 1 (.slice (some ⟨w1.heap.size, 0, none⟩) 0 0) 0 []) := (own_base (own_below (show ((w1.alloc (.cells #[] 3)).drew).ownsRow w1.heap.size 3 1 (.slice (some ⟨w1.heap.size, 0, none⟩) 0 0) 0 [] from own_new0 w1.drew 3 1) b4) HE1.out.size); have HSE4 := Lib.hid (HSE.out w4 _ HE4.out HO4.out); clear b4 d4
      go_wp2_with fail
      refine hK.out _ _ (by (try dsimp only); simp [*]) (fun hHeld => ?_)
      clear hK K
      try simp only [List.setIfInBounds_toArray, List.set_cons_zero, List.set_cons_succ]
      clear HBA HO4
    rotate_left
    focus
      go_simp
      go_at_call 87
      refine (HPW.out w1.drew HE1.out.drew).mono ?_
      rintro e w3 ⟨rfl, b3⟩
      have d3 : Below w1.heap.size w1 w3 := btrans (Below.refl _ _).drew b3
      have HG3 := Lib.hid (HG1.out.below d3 HG1.out.lt)
      obtain ⟨k0, k1, -, -⟩ := HG3.out.two
      go_wp2_with fail
      refine hK.out _ _ (by (try dsimp only); simp [*]) (fun hHeld => ?_)
      clear hK K
      refine wpAnyH_ready (rs := [1]) (by kernel_rfl) (by simp) ?_
      refine AllReadyH.cons rfl (fun K hK => ?_) AllReadyH.nil
      go_simp
      refine hK.out _ _ (⟨keep_al k0, keep_al k1⟩) (fun hHeld => ?_)
      clear hK K
      try simp only [List.setIfInBounds_toArray, List.set_cons_zero, List.set_cons_succ]
      have HE4 : Hid (Below w.heap.size w (w3.alloc (.cells #[] 3))) := (btrans HE1.out d3).alloc (btrans HE1.out d3).size _
      have HG4 : Hid (Blk (w3.alloc (.cells #[] 3)) w.heap.size 29 #[.int .i64 (n : Int), .slice A l.length cA]) := HG3.out.alloc _
      have HSE4 := Lib.hid (HSE.out (w3.alloc (.cells #[] 3)) w3.heap.size HE4.out (own_base (own_new0 w3 3 1) (btrans HE1.out d3).size))
      clear b3 d3 HG3 k0 k1
      generalize w3.alloc (.cells #[] 3) = w4 at *
    all_goals
      refine wpAnyH_ready (rs := [4]) (by kernel_rfl) (by simp) ?_
      refine AllReadyH.cons (o := ⟨some 12, _, _, _, _, _⟩) rfl (fun K hK => ?_) AllReadyH.nil
      go_simp
      refine HSE4.out.mono ?_; rintro e w5 ⟨A9, c9, rfl, o9, b9⟩; obtain ⟨m0, m1, -, -⟩ := (HG4.out.below b9 HG4.out.lt).two; have HE5 := Lib.hid (btrans HE4.out b9); have HO9 := Lib.hid o9; clear o9 b9
      go_wp2_with fail
      refine hK.out _ _ (by (try dsimp only); simp [*]) (fun hHeld => ?_)
      clear hK K
      try simp only [List.setIfInBounds_toArray, List.set_cons_zero, List.set_cons_succ]
      refine wpAnyH_take (i := 5) (oi := ⟨some 13, _, _, _, _, _⟩) (v := ?_) rfl (by kernel_rfl) (by kernel_rfl) (by kernel_rfl) (fun _ _ _ h => h) (Or.inl ⟨by rfl, ?_⟩) (by assumption) ?_
      rotate_left
      · (intro w hSw; (try dsimp only at hSw); go_simp; (try (with_reducible rfl)))
      try simp only [Act.put, List.setIfInBounds_toArray, List.set_cons_zero, List.set_cons_succ]
      refine wpAnyH_take (i := 6) (oi := ⟨some 14, _, _, _, _, _⟩) (v := ?_) rfl (by kernel_rfl) (by kernel_rfl) (by kernel_rfl) (fun _ _ _ h => h) (Or.inl ⟨by rfl, ?_⟩) (by assumption) ?_
      rotate_left
      · (intro w hSw; (try dsimp only at hSw); go_simp; (try (with_reducible rfl)))
      try simp only [Act.put, List.setIfInBounds_toArray, List.set_cons_zero, List.set_cons_succ]
      refine wpAnyH_take (i := 7) (oi := ⟨some 2, _, _, _, _, _⟩) (v := ?_) rfl (by kernel_rfl) (by kernel_rfl) (by kernel_rfl) (fun _ _ _ h => h) (Or.inl ⟨by rfl, ?_⟩) (by assumption) ?_
      rotate_left
      · (intro w hSw; (try dsimp only at hSw); go_simp; (try (with_reducible rfl)))
      try simp only [Act.put, List.setIfInBounds_toArray, List.set_cons_zero, List.set_cons_succ]
      refine wpAnyH_take (i := 8) (oi := ⟨some 3, _, _, _, _, _⟩) (v := ?_) rfl (by kernel_rfl) (by kernel_rfl) (by kernel_rfl) (fun _ _ _ h => h) (Or.inl ⟨by rfl, ?_⟩) (by assumption) ?_
      rotate_left
      · (intro w hSw; (try dsimp only at hSw); go_simp; (try (with_reducible rfl)))
      try simp only [Act.put, List.setIfInBounds_toArray, List.set_cons_zero, List.set_cons_succ]
      refine wpAnyH_done (by kernel_rfl) ?_ _
      go_wp2_with fail
      go_ret2
      exact RetI.yes HGD.out HO9.out HE5.out
  · rw [goodB_no hgd] at HG
    have HN := Lib.hid hgd
    clear hgd
    go_enter Try.func41, Try.ntmps41
    go_wp2_with fail
    refine HG.out.mono ?_
    rintro e w1 ⟨rfl, b1⟩
    have HE1 := Lib.hid (btrans b0 b1)
    have HO := Lib.hid (own_new0 w1 3 1)
    go_wp2_with fail
    go_ret2
    exact RetI.no HN.out (own_base HO.out HE1.out.size) (HE1.out.alloc HE1.out.size _)
end Go.Proofs.Ytphlpipbhaiijaa.costs

/- Arguments of the laws, opened: a Graph as it came in, a slice of integers as it came in. -/
namespace Go.Proofs.Ytphlpipbhaiijaa.opens
open Go.RowKit Go.Joins Go.ChangeShapes Go.WideShapes Go.Deep P2 words

theorem addr_add (g o j : Nat) : (⟨g, o, none⟩ : Addr).add j = ⟨g, o + j, none⟩ := by unfold Addr.add; split <;> simp_all
theorem add_of_add (a : Addr) (i j : Nat) : (a.add i).add j = a.add (i + j) := by
  unfold Addr.add
  by_cases hi : i = 0 <;> by_cases hj : j = 0 <;> simp [hi, hj, Nat.add_assoc]

/-- what is told of a Graph that came in -/
def IsGr (w : World) (s : Int) (v : Value) (l : List Ed) : Prop :=
  Edges w v l ∧ l.length ≤ maxLen ∧ -9223372036854775808 ≤ s ∧ s ≤ 9223372036854775807

theorem bounds64 {n : Int} (h : (Lit.int .i64 n).wf = true) : -9223372036854775808 ≤ n ∧ n ≤ 9223372036854775807 := by
  simp [Lit.wf, IntKind.min, IntKind.max, IntKind.signed, IntKind.bits] at h
  omega

/-- what is told of a slice of integers that came in -/
def IsIn (w : World) (v : Value) (l : List Int) : Prop := Ints w v l ∧ l.length ≤ maxLen ∧ ∀ x ∈ l, -9223372036854775808 ≤ x ∧ x ≤ 9223372036854775807

section
variable {H : Type} {enc : TypeId × Value → H} {w : World} {spare : Nat → Bool} {held : Bool}
theorem open_edges {fuel : Nat} {v : Value} {x : DataW H × List MemPlace} (h : DataW.trod enc Try.prog w 0 spare held fuel 22 [v] = some x) :
    ∃ l : List Ed, Edges w v l ∧ l.length ≤ maxLen := by
  rcases open_slice Try.underlying22 h with ⟨hv, _⟩ | ⟨a, len, cap, m, n, D, Pl, hv, _, hl, hm, hmm, _, hi⟩
  · obtain rfl : v = .slice none 0 0 := by simpa using hv
    exact ⟨[], Reads.nil _ _, Nat.zero_le _⟩
  · obtain rfl : v = .slice (some a) len cap := by simpa using hv
    have hlm : len ≤ m := by rw [hmm]; split <;> omega
    have hC : Try.prog.cellsOf 104 = 2 := by kernel_rfl
    have hC1 : Try.prog.cellsOf 3 = 1 := by kernel_rfl
    rw [hC] at hi
    have key : ∀ i, i < len → ∃ e : Ed, w.cell? (a.add (i * 2)) = some (.int .i64 e.1) ∧ w.cell? (a.add (i * 2 + 1)) = some (.int .i64 e.2) := fun i hil => by
      obtain ⟨cs', hc, ht⟩ := hi i (by omega)
      obtain ⟨xs, m', _, _, _, hxl, he⟩ := DataW.trod_array Try.underlying104 ht
      obtain ⟨_, hcl, hat⟩ := World.cells?_some hc
      rw [hC1] at he
      match cs', hcl with
      | [c0, c1], _ =>
        match xs, hxl with
        | [y0, y1], _ =>
          have e0 : DataW.trod enc Try.prog w 0 spare held m' 3 [c0] = some y0 := he 0 (by decide)
          have e1 : DataW.trod enc Try.prog w 0 spare held m' 3 [c1] = some y1 := he 1 (by decide)
          obtain ⟨n0, h0, _, _⟩ := DataW.trod_int Try.underlying3 e0
          obtain ⟨n1, h1, _, _⟩ := DataW.trod_int Try.underlying3 e1
          obtain rfl : c0 = .int .i64 n0 := by simpa using h0
          obtain rfl : c1 = .int .i64 n1 := by simpa using h1
          have a0 := hat 0 (by decide)
          have a1 := hat 1 (by decide)
          rw [add_of_add] at a0 a1
          exact ⟨(n0, n1), by simpa using a0, by simpa using a1⟩
    obtain ⟨f, hf⟩ := choose_lt (α := Ed) key
    refine ⟨(List.range len).map f, ⟨some a, cap, by simp, fun hn => ?_⟩, by simp; omega⟩
    simp only [List.length_map, List.length_range] at hn ⊢
    obtain ⟨b, off, spot⟩ := a
    have hc0 := (hf 0 hn).1
    have hspot : spot = none := by simpa [Addr.add] using World.cell?_spot hc0
    subst hspot
    refine ⟨b, off, rfl, hl, fun j u hu => ?_⟩
    have hjl : j < len * 2 := by
      have := (List.getElem?_eq_some_iff.1 hu).1
      rw [cellsE_len] at this; simpa using this
    obtain ⟨k, hk⟩ : ∃ k, k = j / 2 := ⟨_, rfl⟩
    have hkl : k < len := by omega
    have hkf : ((List.range len).map f)[k]? = some (f k) := by simp [hkl]
    have hck := cellsE_at hkf
    have hcl := hf k hkl
    rw [addr_add, addr_add] at hcl
    rcases Nat.mod_two_eq_zero_or_one j with h0 | h0
    · obtain rfl : j = k * 2 := by omega
      rw [hck.1] at hu
      rw [hcl.1, ← hu]
    · obtain rfl : j = k * 2 + 1 := by omega
      rw [hck.2] at hu
      rw [hcl.2, ← hu]

set_option maxRecDepth 100000 in
theorem open_graph {r : Reach} {b0 : Nat} {v : Value} {d : DataW H} {p : List MemPlace} (hv : Value.okWide Try.prog w r b0 24 v)
    (h : DataW.Trod enc Try.prog w 0 spare held 24 v d p) : ∃ s u l, v = .agg #[.int .i64 s, u] ∧ IsGr w s u l := by
  obtain ⟨c0, c1, y0, y1, m, rfl, _, _, h0, h1⟩ := open_agg2 Try.underlying24 (by kernel_rfl) (by kernel_rfl) hv h
  obtain ⟨n0, k0, _, w0⟩ := DataW.trod_int Try.underlying3 h0
  obtain rfl : c0 = .int .i64 n0 := by simpa using k0
  obtain ⟨l, he, hl⟩ := open_edges h1
  exact ⟨n0, c1, l, rfl, he, hl, bounds64 w0⟩

set_option maxRecDepth 100000 in
theorem open_intsl {r : Reach} {b0 : Nat} {v : Value} {d : DataW H} {p : List MemPlace} (hv : Value.okWide Try.prog w r b0 25 v)
    (h : DataW.Trod enc Try.prog w 0 spare held 25 v d p) : ∃ u l, v = u ∧ IsIn w u l := by
  obtain ⟨A, len, cap, rfl⟩ := okWide_slice Try.underlying25 hv
  obtain ⟨fuel, hf⟩ := h
  simp only [Value.cells] at hf
  rcases open_slice Try.underlying25 hf with ⟨hv, _⟩ | ⟨a, len', cap', m, n, D, Pl, hv, _, hl, hm, hmm, _, hi⟩
  · have e : Value.slice A len cap = .slice none 0 0 := by simpa using hv
    rw [e]
    exact ⟨_, [], rfl, Reads.nil _ _, Nat.zero_le _, fun x hx => by cases hx⟩
  · have e : Value.slice A len cap = .slice (some a) len' cap' := by simpa using hv
    rw [e]
    have hlm : len' ≤ m := by rw [hmm]; split <;> omega
    have hC1 : Try.prog.cellsOf 3 = 1 := by kernel_rfl
    rw [hC1] at hi
    have key : ∀ i, i < len' → ∃ x : Int, w.cell? (a.add i) = some (.int .i64 x) ∧ (Lit.int .i64 x).wf = true := fun i hil => by
      obtain ⟨cs', hc, ht⟩ := hi i (by omega)
      obtain ⟨_, hcl, hat⟩ := World.cells?_some hc
      match cs', hcl with
      | [c0], _ =>
        obtain ⟨n0, h0, _, hw⟩ := DataW.trod_int Try.underlying3 ht
        obtain rfl : c0 = .int .i64 n0 := by simpa using h0
        have a0 := hat 0 (by decide)
        rw [add_of_add, Nat.mul_one] at a0
        exact ⟨n0, by simpa using a0, hw⟩
    obtain ⟨f, hf⟩ := choose_lt (α := Int) key
    refine ⟨_, (List.range len').map f, rfl, ⟨some a, cap', by simp, fun hn => ?_⟩, by simp; omega, fun x hx => ?_⟩
    · simp only [List.length_map, List.length_range] at hn ⊢
      obtain ⟨b, off, spot⟩ := a
      have hc0 := (hf 0 hn).1
      have hspot : spot = none := by simpa [Addr.add] using World.cell?_spot hc0
      subst hspot
      refine ⟨b, off, rfl, hl, fun j u hu => ?_⟩
      have hjl : j < len' := by
        have := (List.getElem?_eq_some_iff.1 hu).1
        rw [cellsI_len] at this; simpa using this
      have hcl := (hf j hjl).1
      rw [addr_add] at hcl
      have hkf : ((List.range len').map f)[j]? = some (f j) := by simp [hjl]
      rw [cellsI_at hkf] at hu
      rw [hcl, ← hu]
    · simp only [List.mem_map, List.mem_range] at hx
      obtain ⟨j, hj, rfl⟩ := hx
      exact bounds64 (hf j hj).2
end
end Go.Proofs.Ytphlpipbhaiijaa.opens
