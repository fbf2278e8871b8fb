/- The contracts of the program's isClique and PerfectElimination. -/
import Derived.Handy
import Derived.Test.YtphlpipbhaiijaaPerfM
import Derived.Test.YtphlpipbhaiijaaAround
import Derived.Test.YtphlpipbhaiijaaClosed
import Derived.Test.YtphlpipbhaiijaaFunc
import Derived.Deep.DeepCutAuto
import Derived.Deep.RegionHeld3
import Derived.Deep.QuietTactic
namespace Go.Proofs.Ytphlpipbhaiijaa.costs
open Go.RowKit P2 words edges ints good adjs fns sets rets covs reach bags bitsI fronts func
set_option linter.unusedVariables false

/-- all of a set are neighbors of a node, or it -/
def allN (n : Nat) (l : List Ed) (S : Nat → Bool) (x : Nat) : Bool := decide (numOf S n &&& cloB l x = numOf S n)
theorem allN_iff {n : Nat} {l : List Ed} (hg : P2.Good (n : Int) l) {S : Nat → Bool} {x : Nat} : allN n l S x = true ↔ ∀ z, z < n → S z = true → z ≠ x → adj l (x : Int) (z : Int) = true := by
  unfold allN
  rw [decide_eq_true_iff, sub_iff]
  constructor
  · intro h z hz hs hne
    have h1 := h z (by rw [numOf_bit]; simp [hz, hs])
    rw [cloB_bit hg, Bool.or_eq_true] at h1
    rcases h1 with h1 | h1
    · exact absurd (beq_iff_eq.1 h1).symm hne
    · exact h1
  · intro h z hz
    rw [numOf_bit, Bool.and_eq_true, decide_eq_true_iff] at hz
    rw [cloB_bit hg, Bool.or_eq_true]
    by_cases e : x = z
    · exact .inl (by simpa using e)
    · exact .inr (h z hz.1 hz.2 (fun h => e h.symm))
theorem clique_any {n : Nat} {l : List Ed} (hg : P2.Good (n : Int) l) {S : Nat → Bool} : (!(nw S n).any fun x => !allN n l S x.toNat) = cliqueB n l S := by
  rw [Bool.eq_iff_iff, cliqueB_iff, Bool.not_eq_true', List.any_eq_false]
  constructor
  · intro h a b ha hb hsa hsb hne
    have h1 := h (a : Int) (mem_nw.2 ⟨a, ha, hsa, rfl⟩)
    rw [Int.toNat_natCast] at h1
    exact (allN_iff hg).1 (by simpa using h1) b hb hsb (fun e => hne e.symm)
  · intro h x hx
    obtain ⟨j, hj, hs, rfl⟩ := mem_nw.1 hx
    rw [Int.toNat_natCast, (allN_iff hg).2 fun z hz hsz hne => h j z hj hz hs hsz (fun e => hne e.symm)]
    simp
set_option maxHeartbeats 1000000 in
set_option maxRecDepth 100000 in
theorem cliqueClo_any (n x b1 b2 : Nat) (S : Nat → Bool) (v : Value) (l : List Ed) (w : World) (h1 : w.cell? ⟨b1, 0, none⟩ = some (.int .u64 (numOf S n : Int))) (h2 : w.cell? ⟨b2, 0, none⟩ = some v) (h : Nums w v (clos l n)) (hg : P2.Good (n : Int) l) (hn : n ≤ 8) (hx : x < n) :
    Calls Try.prog 133 #[.int .i64 (x : Int), .pointer (some ⟨b1, 0, none⟩), .pointer (some ⟨b2, 0, none⟩)] w fun e w' => e = .returned (.bool (!allN n l S x)) ∧ Below w.heap.size w w' := by
  obtain ⟨A, c, rfl, hcl⟩ := h.form
  obtain ⟨g6, o6, rfl, c6⟩ := hcl x _ (clos_at hx)
  have hlen := clos_len l n
  rw [hlen] at h2
  have hx' : (x : Int) < (n : Int) := by omega
  have HT : Hid ((bits .andNot .u64 ((numOf S n : Nat) : Int) ((cloB l x : Nat) : Int) == 0) = allN n l S x) := bits_andNot0 _ _ (by have := numOf_lt S hn; omega) (by have := cloB_lt' hg x (by omega); omega)
  clear hcl h hg hlen
  generalize numOf S n = a at *
  generalize cloB l x = b at *
  generalize allN n l S x = r at *
  go_enter Try.func133, Try.ntmps133
  go_wp2_with fail
  go_quiet (fail)
  go_wp2_with fail
  go_ret
  exact ⟨by rw [← HT.out]; rfl, below_drewN (Below.refl _ _) _⟩
set_option maxHeartbeats 1000000 in
set_option maxRecDepth 100000 in
theorem isClique_any (n : Nat) (S : Nat → Bool) (v : Value) (l : List Ed) (w : World) (h : Nums w v (clos l n)) (hg : P2.Good (n : Int) l) (hn : n ≤ 8) :
    Calls Try.prog 84 #[v, .int .u64 (numOf S n : Int)] w fun e w' => e = .returned (.bool (cliqueB n l S)) ∧ Below w.heap.size w w' := by
  obtain ⟨A, c, rfl, -⟩ := h.form
  have hmf : ∀ (fn : Fn) (first cap : Array Value) (w : World), (Instr.makeFunc fn first cap).run Try.prog w = .ok (.func fn first cap) w := fun _ _ _ _ => rfl
  have b1 : Below w.heap.size w (w.alloc (.cells #[.slice A (clos l n).length c] 56)) := (Below.refl _ _).alloc (Nat.le_refl _) _
  have b2 : Below w.heap.size w ((w.alloc (.cells #[.slice A (clos l n).length c] 56)).alloc (.cells #[.int .u64 (numOf S n : Int)] 68)) := b1.alloc (by simp) _
  have HB2 := Lib.hid b2
  have g1 := (Blk.new w 56 #[.slice A (clos l n).length c]).alloc (.cells #[.int .u64 (numOf S n : Int)] 68)
  have g2 := Blk.new (w.alloc (.cells #[.slice A (clos l n).length c] 56)) 68 #[.int .u64 (numOf S n : Int)]
  rw [World.size_alloc] at g2
  have HG1 := Lib.hid g1
  have HG2 := Lib.hid g2
  have p2 : ((w.alloc (.cells #[.slice A (clos l n).length c] 56)).alloc (.cells #[.int .u64 (numOf S n : Int)] 68)).cell? ⟨w.heap.size + 1, 0, none⟩ = some (.int .u64 (numOf S n : Int)) := g2.cell 0
  have HND := Lib.hid (nodes_any (numOf S n) ((w.alloc (.cells #[.slice A (clos l n).length c] 56)).alloc (.cells #[.int .u64 (numOf S n : Int)] 68)) (by have := numOf_lt S hn; omega))
  rw [nodes_num hn] at HND
  have HV := Lib.hid (clique_any (S := S) hg)
  have HGD := Lib.hid hg
  have HN := Lib.hid h
  have hl8 : (nw S n).length ≤ 1048576 := by have := nw_len S n; omega
  clear h hg b1 b2 g1 g2
  go_enter Try.func84, Try.ntmps84
  go_wp2_with fail
  refine HND.out.mono ?_
  rintro e w3 ⟨A3, c3, rfl, o3, b3⟩
  have HB3 := Lib.hid (btrans HB2.out b3)
  have HCF := Lib.hid (containsFuncI_any (.slice A3 (nw S n).length c3) (nw S n) 133 #[.pointer (some ⟨w.heap.size + 1, 0, none⟩), .pointer (some ⟨w.heap.size, 0, none⟩)] (fun x => !allN n l S x.toNat) w3 (show Ints _ _ _ from Reads.of_own o3) hl8
    { enter := fun _ _ => by kernel_rfl
      call := fun W hW x hx => by
        obtain ⟨j, hj, hs, rfl⟩ := mem_nw.1 hx
        rw [Int.toNat_natCast]
        exact cliqueClo_any n j (w.heap.size + 1) w.heap.size S _ l W (((HG2.out.below b3 HG2.out.lt).below hW (HG2.out.below b3 HG2.out.lt).lt).cell 0) (((HG1.out.below b3 HG1.out.lt).below hW (HG1.out.below b3 HG1.out.lt).lt).cell 0) (HN.out.below (btrans HB3.out hW)) HGD.out hn hj })
  clear o3 b3 p2
  go_wp2_with fail
  refine HCF.out.mono ?_
  rintro e w4 ⟨rfl, b4⟩
  have HB4 := Lib.hid (btrans HB3.out b4)
  go_wp2_with fail
  go_ret
  rw [HV.out]
  exact ⟨rfl, HB4.out⟩
set_option maxHeartbeats 1000000 in
set_option maxRecDepth 100000 in
theorem perfClo_any (n g x b : Nat) (v : Value) (l : List Ed) (w : World) (hc : w.cell? ⟨b, 0, none⟩ = some v) (h : Nums w v (clos l n)) (hg : P2.Good (n : Int) l) (hn : n ≤ 8) (hx : x < n) (hgn : g < 2 ^ n) (hb : g.testBit x = false) :
    Calls Try.prog 83 #[.int .u64 (g : Int), .int .i64 (x : Int), .pointer (some ⟨b, 0, none⟩)] w fun e w' => e = .returned (.bool (fitP n l g x)) ∧ Below w.heap.size w w' := by
  have HBG := Lib.hid (bagOf_any n x (bitB g) v l w.drew (show Nums _ _ _ from h.below (Below.refl _ _).drew) hg hn hx hb)
  rw [num_code hgn] at HBG
  have HCQ := Lib.hid (fun (W : World) (hW : Below w.heap.size w W) => isClique_any n (bagB n l (bitB g) x) v l W (h.below hW) hg hn)
  have HV : Hid (fitP n l g x = cliqueB n l (bagB n l (bitB g) x)) := rfl
  rw [HV.out]
  have HC := Lib.hid hc
  clear h hg
  generalize cliqueB n l (bagB n l (bitB g) x) = r at *
  generalize numOf (bagB n l (bitB g) x) n = a at *
  go_enter Try.func83, Try.ntmps83
  go_wp2_with fail
  refine wp_region_held_drew (S := (fun w' : World => w'.cell? ⟨b, 0, none⟩ = some v)) (by kernel_rfl) (by (try dsimp only); simp [*]) (fun hHeld => ?_)
  change wpAnyH _ _ _ _ _ _ #[false, false, false, false, false, false, false] _ _
  refine wpAnyH_take (i := 0) (oi := ⟨some 6, _, _, _, _, _⟩) (v := ?_) rfl (by kernel_rfl) (by kernel_rfl) (by kernel_rfl) (fun _ _ _ h => h) (Or.inl ⟨by rfl, ?_⟩) (by assumption) ?_
  rotate_left
  · (intro w hSw; (try dsimp only at hSw); go_simp; (try (with_reducible rfl)))
  try simp only [Act.put, List.setIfInBounds_toArray, List.set_cons_zero, List.set_cons_succ]
  refine wpAnyH_take (i := 1) (oi := ⟨some 7, _, _, _, _, _⟩) (v := ?_) rfl (by kernel_rfl) (by kernel_rfl) (by kernel_rfl) (fun _ _ _ h => h) (Or.inl ⟨by rfl, ?_⟩) (by assumption) ?_
  rotate_left
  · (intro w hSw; (try dsimp only at hSw); go_simp; (try (with_reducible rfl)))
  try simp only [Act.put, List.setIfInBounds_toArray, List.set_cons_zero, List.set_cons_succ]
  refine wpAnyH_take (i := 2) (oi := ⟨some 8, _, _, _, _, _⟩) (v := ?_) rfl (by kernel_rfl) (by kernel_rfl) (by kernel_rfl) (fun _ _ _ h => h) (Or.inl ⟨by rfl, ?_⟩) (by assumption) ?_
  rotate_left
  · (intro w hSw; (try dsimp only at hSw); go_simp; (try (with_reducible rfl)))
  try simp only [Act.put, List.setIfInBounds_toArray, List.set_cons_zero, List.set_cons_succ]
  refine wpAnyH_take (i := 3) (oi := ⟨some 9, _, _, _, _, _⟩) (v := ?_) rfl (by kernel_rfl) (by kernel_rfl) (by kernel_rfl) (fun _ _ _ h => h) (Or.inl ⟨by rfl, ?_⟩) (by assumption) ?_
  rotate_left
  · (intro w hSw; (try dsimp only at hSw); go_simp; (try (with_reducible rfl)))
  try simp only [Act.put, List.setIfInBounds_toArray, List.set_cons_zero, List.set_cons_succ]
  refine wpAnyH_ready (rs := [4]) (by kernel_rfl) (by simp) ?_
  refine AllReadyH.cons (o := ⟨some 10, _, _, _, _, _⟩) rfl (fun K hK => ?_) AllReadyH.nil
  go_simp
  refine HBG.out.mono ?_; rintro e w3 ⟨rfl, m, hw3⟩; have d3 : Below w.heap.size w w3 := (by rw [hw3]; exact below_drewN (Below.refl _ _).drew m); clear hw3; have k3 := nearv.cell_keep HC.out d3
  go_wp2_with fail
  refine hK.out _ _ (by (try dsimp only); simp [*]) (fun hHeld => ?_)
  clear hK K
  try simp only [List.setIfInBounds_toArray, List.set_cons_zero, List.set_cons_succ]
  refine wpAnyH_ready (rs := [5]) (by kernel_rfl) (by simp) ?_
  refine AllReadyH.cons (o := ⟨some 11, _, _, _, _, _⟩) rfl (fun K hK => ?_) AllReadyH.nil
  go_simp
  refine (HCQ.out _ d3).mono ?_; rintro e w4 ⟨rfl, b4⟩; have d4 : Below w.heap.size w w4 := btrans d3 b4; have k4 := nearv.cell_keep HC.out d4
  go_wp2_with fail
  refine hK.out _ _ (by (try dsimp only); simp [*]) (fun hHeld => ?_)
  clear hK K
  try simp only [List.setIfInBounds_toArray, List.set_cons_zero, List.set_cons_succ]
  refine wpAnyH_take (i := 6) (oi := ⟨some 5, _, _, _, _, _⟩) (v := ?_) rfl (by kernel_rfl) (by kernel_rfl) (by kernel_rfl) (fun _ _ _ h => h) (Or.inl ⟨by rfl, ?_⟩) (by assumption) ?_
  rotate_left
  · (intro w hSw; (try dsimp only at hSw); go_simp; (try (with_reducible rfl)))
  try simp only [Act.put, List.setIfInBounds_toArray, List.set_cons_zero, List.set_cons_succ]
  refine wpAnyH_done (by kernel_rfl) ?_ _
  go_wp2_with fail
  go_ret
  exact ⟨rfl, d4⟩
set_option maxHeartbeats 2000000 in
set_option maxRecDepth 100000 in
theorem implPerf_any (s : Int) (v : Value) (l : List Ed) (w : World) (h : Edges w v l) (hl : l.length ≤ 1048576) :
    Calls Try.prog 40 #[.agg #[.int .i64 s, v]] w (RetI w (PerfOk s l) (peL s l)) := by
  obtain ⟨A, c, rfl, -⟩ := h.form
  have H := Lib.hid h
  have b0 : Below w.heap.size w (w.alloc (.cells #[.int .i64 s, .slice A l.length c] 29)) := (Below.refl _ _).alloc (Nat.le_refl _) _
  have g0 := Blk.new w 29 #[.int .i64 s, .slice A l.length c]
  have HG := Lib.hid (implIsGraph_any s _ l _ (h.below b0) hl)
  have hmf : ∀ (fn : Fn) (first cap : Array Value) (w : World), (Instr.makeFunc fn first cap).run Try.prog w = .ok (.func fn first cap) w := fun _ _ _ _ => rfl
  clear h
  by_cases hgd : P2.Good s l
  · rw [goodB_yes hgd] at HG
    have h0 := hgd.1
    have h8 := hgd.2.1
    obtain ⟨n, rfl⟩ : ∃ n : Nat, s = (n : Int) := ⟨s.toNat, by omega⟩
    have hn : n ≤ 8 := by omega
    have HGD := Lib.hid hgd
    have HPE : Hid (peL (n : Int) l = ordL n (fitP n l)) := by show _ = _; unfold peL; rw [Int.toNat_natCast]
    have HOK : Hid (PerfOk (n : Int) l ↔ (ordN n (fitP n l) n).isSome = true) := by
      show _ ↔ _
      unfold PerfOk
      rw [Int.toNat_natCast]
      exact ⟨fun h => h.2, fun h => ⟨hgd, h⟩⟩
    clear hgd
    go_enter Try.func40, Try.ntmps40
    go_wp2_with fail
    refine HG.out.mono ?_
    rintro e w1 ⟨rfl, b1⟩
    have e1 := btrans b0 b1
    have g1 := g0.below b1 g0.lt
    obtain ⟨p0, p1, -, -⟩ := g1.two
    clear HG b0 b1 g0
    go_wp2_with fail
    refine (closedBits_any n (.slice A l.length c) l w1 (H.out.below e1) hl HGD.out hn).mono ?_
    rintro e w2 ⟨A3, c3, rfl, r3, b3⟩
    have HE2 := Lib.hid (btrans e1 b3)
    have g2 := g1.below b3 g1.lt
    have ba : Below w2.heap.size w2 (w2.alloc (.cells #[.slice A3 (clos l n).length c3] 56)) := (Below.refl _ _).alloc (Nat.le_refl _) _
    have HE3 := Lib.hid (btrans HE2.out ba)
    have HG3 := Lib.hid (g2.below ba g2.lt)
    have HCL := Lib.hid (Blk.new w2 56 #[.slice A3 (clos l n).length c3])
    have HR3 := Lib.hid (r3.below ba)
    have HFO := Lib.hid (firstOrder_any n (fitP n l) 83 #[.pointer (some ⟨w2.heap.size, 0, none⟩)] (w2.alloc (.cells #[.slice A3 (clos l n).length c3] 56)) hn (fun _ _ => by kernel_rfl) (fun W g x hW hgn hx hb =>
      perfClo_any n g x w2.heap.size _ l W ((HCL.out.below hW HCL.out.lt).cell 0) (HR3.out.below hW) HGD.out hn hx hgn hb))
    clear p0 p1
    obtain ⟨p0, p1, -, -⟩ := HG3.out.two
    obtain ⟨q0, q1, -, -⟩ := g2.two
    clear r3 b3 ba g1 g2 e1
    go_wp2_with fail
    refine HFO.out.mono ?_
    rintro e w4 ⟨A4, c4, rfl, o4, b4⟩
    have HO4 := Lib.hid (own_base o4 HE3.out.size)
    have HE4 := Lib.hid (btrans HE3.out b4)
    clear o4 b4 p0 p1 q0 q1
    go_wp2_with fail
    go_ret2
    rw [← HPE.out] at HO4 ⊢
    by_cases hs : (ordN n (fitP n l) n).isSome = true
    · rw [hs]
      exact RetI.yes (HOK.out.2 hs) HO4.out HE4.out
    · have hs2 : (ordN n (fitP n l) n).isSome = false := by simpa using hs
      have hnil : peL (n : Int) l = [] := by
        rw [HPE.out]
        unfold ordL
        cases ho : ordN n (fitP n l) n with
        | none => rfl
        | some q => rw [ho] at hs2; cases hs2
      rw [hs2, hnil]
      have h_ := HO4.out
      rw [hnil] at h_
      have h9 := RetI.no (l := peL (n : Int) l) (fun h => hs (HOK.out.1 h)) h_ HE4.out
      rw [hnil] at h9
      exact h9
  · rw [goodB_no hgd] at HG
    have HN : Hid (¬ PerfOk s l) := fun h => hgd h.1
    clear hgd
    go_enter Try.func40, Try.ntmps40
    go_wp2_with fail
    refine HG.out.mono ?_
    rintro e w1 ⟨rfl, b1⟩
    go_wp2_with fail
    go_ret2
    exact RetI.nil HN.out (btrans b0 b1)
end Go.Proofs.Ytphlpipbhaiijaa.costs
