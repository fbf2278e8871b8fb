/- Forcing: the contracts of the program's firstSet, leastColouringAll, LeastForcing, LeastPower and LeastSkew. -/
import Derived.Handy
import Derived.Test.YtfphpilabfpmjaaForcK
import Derived.Deep.DeepCutAuto
import Derived.Deep.RegionHeld3
import Derived.Deep.QuietTactic
namespace Go.Proofs.Ytfphpilabfpmjaa.forc
open Go.RowKit P2 words edges ints good adjs fns sets rets covs bags bitsI ups func gridr
set_option linter.unusedVariables false

theorem FnU.on {w w' : World} {f : FuncId} {caps : Array Value} {xs : List Nat} {p : Nat → Bool} (h : FnU w f caps xs p) (hb : Below w.heap.size w w') : FnU w' f caps xs p :=
  { enter := h.enter, call := fun W hW x hx => h.call W (btrans hb hW) x hx }
set_option maxHeartbeats 2000000 in
set_option maxRecDepth 100000 in
theorem firstSet_any (n : Nat) (f : FuncId) (caps : Array Value) (p : Nat → Bool) (w : World) (hn : n ≤ 8) (h : FnU w f caps (setsN n n) p) (ha : p (2 ^ n - 1) = true) :
    Calls Try.prog 103 #[.int .i64 (n : Int), .func (.func f) #[] caps] w fun e w' => bestC p rkMin n < 2 ^ n ∧ e = .returned (.int .u64 (bestC p rkMin n : Int)) ∧ Below w.heap.size w w' := by
  have HSU := Lib.hid (setsUpTo_own n n w hn hn)
  have HF := Lib.hid (fun (W : World) (hW : Below w.heap.size w W) (v : Value) (hv : Nums W v (setsN n n)) => indexFuncU_any v (setsN n n) f caps p W hv (by have := sets_len hn hn; omega) (FnU.on h hW))
  obtain ⟨i, y, hi, hy, hp, hf⟩ := idxF_some ((mem_all hn).2 (show 2 ^ n - 1 < 2 ^ n from by have := Nat.pow_pos (n := n) (show 0 < 2 by decide); omega)) ha
  have HV : Hid (bestC p rkMin n = y) := bestC_is hn rkMin_inj (min_C hn hy hp hf)
  have HYN : Hid (y < 2 ^ n) := (mem_all hn).1 (List.mem_of_getElem? hy)
  have hil : (i : Int) < ((setsN n n).length : Int) := by have := (List.getElem?_eq_some_iff.1 hy).1; omega
  have HY := Lib.hid hy
  have HHI := Lib.hid hi
  rw [HV.out]
  clear h ha hi hy hp hf HV
  generalize setsN n n = S at *
  go_enter Try.func103, Try.ntmps103
  go_wp2_with fail
  refine HSU.out.mono ?_
  rintro e w4 ⟨A5, c5, rfl, o5, b5⟩
  have HB4 := Lib.hid b5
  have HN5 : Hid (Nums w4 (.slice A5 S.length c5) S) := Reads.of_own o5
  have HIX := Lib.hid (HF.out w4 b5 _ HN5.out)
  rw [HHI.out] at HIX
  clear o5 b5 HF HSU
  go_wp2_with fail
  refine HIX.out.mono ?_
  rintro e w6 ⟨rfl, b6⟩
  have HB6 := Lib.hid (btrans HB4.out b6)
  obtain ⟨_, _, hf5, hcc⟩ := (show Nums w6 (.slice A5 S.length c5) S from HN5.out.below b6).form
  cases hf5
  obtain ⟨g7, o7, rfl, c7⟩ := hcc i y HY.out
  clear hcc b6
  go_wp2_with fail
  go_ret
  exact ⟨HYN.out, rfl, HB6.out⟩
/-- all nodes are coloured in the end -/
def fullK (n : Nat) (l : List Ed) (kind c : Nat) : Bool := rchN n l kind c == 2 ^ n - 1
theorem ar_full {n : Nat} (l : List Ed) : arN l n (2 ^ n - 1) = 2 ^ n - 1 := by
  apply Nat.eq_of_testBit_eq
  intro y
  rw [Nat.testBit_two_pow_sub_one]
  unfold arN
  rw [numOf_bit]
  by_cases hy : y < n
  · rw [decide_eq_true hy, Bool.true_and]
    exact arB_iff.2 ⟨y, hy, by rw [Nat.testBit_two_pow_sub_one, decide_eq_true hy], .inl rfl⟩
  · rw [decide_eq_false hy, Bool.false_and]
theorem full_allK (n : Nat) (l : List Ed) (kind : Nat) : fullK n l kind (2 ^ n - 1) = true := by
  unfold fullK rchN bgN
  rw [beq_iff_eq]
  split
  · rw [ar_full, full_last]
  · rw [full_last]
def lstN (n : Nat) (l : List Ed) (kind : Nat) : Nat → Bool := fullK n l kind
noncomputable def bestK (n : Nat) (l : List Ed) (kind : Nat) : Nat := bestC (fullK n l kind) rkMin n
noncomputable def lkL (s : Int) (l : List Ed) (kind : Nat) : List Int := ndN (bestK s.toNat l kind)
theorem beq_castK (a b : Nat) : (((a : Nat) : Int) == ((b : Nat) : Int)) = (a == b) := by
  rw [Bool.eq_iff_iff, beq_iff_eq, beq_iff_eq]; omega
set_option maxHeartbeats 4000000 in
set_option maxRecDepth 100000 in
theorem lcaClo_any (n kind d b1 b2 b3 : Nat) (f : FuncId) (v sv : Value) (l : List Ed) (w : World) (h1 : w.cell? ⟨b1, 0, none⟩ = some (.func (.func f) #[] #[])) (h2 : w.cell? ⟨b2, 0, none⟩ = some v) (h3 : w.cell? ⟨b3, 0, none⟩ = some (.int .i64 (n : Int))) (h : Nums w v (clos l n)) (hg : P2.Good (n : Int) l) (hn : n ≤ 8) (hd : d < 2 ^ n) (hf : FnBeg f n l kind) :
    Calls Try.prog 104 #[.int .u64 (d : Int), .pointer (some ⟨b1, 0, none⟩), .pointer (some ⟨b2, 0, none⟩), .pointer (some ⟨b3, 0, none⟩)] w fun e w' => e = .returned (.bool (fullK n l kind d)) ∧ Below w.heap.size w w' := by
  have hent := hf.enter
  have HFC := Lib.hid (hf.call w.drew v d (h.below (Below.refl _ _).drew) hd)
  have HLA := Lib.hid (fun (W : World) (hW : Below w.heap.size w W) => last_any n (bgN n l kind d) (bgS kind) v l W (h.below hW) hg hn (bg_lt hd))
  have H1 := Lib.hid h1
  have H2 := Lib.hid h2
  have H3 := Lib.hid h3
  have hp1 : 1 ≤ 2 ^ n := Nat.one_le_two_pow
  have hw1 : IntKind.u64.wrap (IntKind.u64.wrap ((2 : Int) ^ n) - 1) = ((2 ^ n - 1 : Nat) : Int) := by
    have hpn := pow_le hn
    rw [wrap_pow hn, IntKind.wrap_u64]
    generalize 2 ^ n = z at *
    omega
  have HV : Hid (fullK n l kind d = (lastN n l (bgS kind) (bgN n l kind d) == 2 ^ n - 1)) := rfl
  rw [HV.out]
  clear h hg hf hp1 HV
  generalize lastN n l (bgS kind) (bgN n l kind d) = y1 at *
  generalize 2 ^ n - 1 = z1 at *
  have hbq := beq_castK y1 z1
  go_enter Try.func104, Try.ntmps104
  go_wp2_with fail
  refine wp_region_held_drew (S := (fun w' : World => w'.cell? ⟨b1, 0, none⟩ = some (.func (.func f) #[] #[]) ∧ w'.cell? ⟨b2, 0, none⟩ = some v ∧ w'.cell? ⟨b3, 0, none⟩ = some (.int .i64 (n : Int)))) (by kernel_rfl) (by (try dsimp only); simp [*]) (fun hHeld => ?_)
  change wpAnyH _ _ _ _ _ _ #[false, false, false, false, false, false, false, false, false, false, false, false] _ _
  refine wpAnyH_take (i := 0) (oi := ⟨some 6, _, _, _, _, _⟩) (v := ?_) rfl (by kernel_rfl) (by kernel_rfl) (by kernel_rfl) (fun _ _ _ h => h) (Or.inl ⟨by rfl, ?_⟩) (by assumption) ?_
  rotate_left
  · (intro w hSw; (try dsimp only at hSw); go_simp; (try (with_reducible rfl)))
  try simp only [Act.put, List.setIfInBounds_toArray, List.set_cons_zero, List.set_cons_succ]
  refine wpAnyH_take (i := 1) (oi := ⟨some 7, _, _, _, _, _⟩) (v := ?_) rfl (by kernel_rfl) (by kernel_rfl) (by kernel_rfl) (fun _ _ _ h => h) (Or.inl ⟨by rfl, ?_⟩) (by assumption) ?_
  rotate_left
  · (intro w hSw; (try dsimp only at hSw); go_simp; (try (with_reducible rfl)))
  try simp only [Act.put, List.setIfInBounds_toArray, List.set_cons_zero, List.set_cons_succ]
  refine wpAnyH_take (i := 2) (oi := ⟨some 8, _, _, _, _, _⟩) (v := ?_) rfl (by kernel_rfl) (by kernel_rfl) (by kernel_rfl) (fun _ _ _ h => h) (Or.inl ⟨by rfl, ?_⟩) (by assumption) ?_
  rotate_left
  · (intro w hSw; (try dsimp only at hSw); go_simp; (try (with_reducible rfl)))
  try simp only [Act.put, List.setIfInBounds_toArray, List.set_cons_zero, List.set_cons_succ]
  refine wpAnyH_take (i := 4) (oi := ⟨some 10, _, _, _, _, _⟩) (v := ?_) rfl (by kernel_rfl) (by kernel_rfl) (by kernel_rfl) (fun _ _ _ h => h) (Or.inl ⟨by rfl, ?_⟩) (by assumption) ?_
  rotate_left
  · (intro w hSw; (try dsimp only at hSw); go_simp; (try (with_reducible rfl)))
  try simp only [Act.put, List.setIfInBounds_toArray, List.set_cons_zero, List.set_cons_succ]
  refine wpAnyH_take (i := 6) (oi := ⟨some 12, _, _, _, _, _⟩) (v := ?_) rfl (by kernel_rfl) (by kernel_rfl) (by kernel_rfl) (fun _ _ _ h => h) (Or.inl ⟨by rfl, ?_⟩) (by assumption) ?_
  rotate_left
  · (intro w hSw; (try dsimp only at hSw); go_simp; (try (with_reducible rfl)))
  try simp only [Act.put, List.setIfInBounds_toArray, List.set_cons_zero, List.set_cons_succ]
  refine wpAnyH_take (i := 7) (oi := ⟨some 13, _, _, _, _, _⟩) (v := ?_) rfl (by kernel_rfl) (by kernel_rfl) (by kernel_rfl) (fun _ _ _ h => h) (Or.inl ⟨by rfl, ?_⟩) (by assumption) ?_
  rotate_left
  · (intro w hSw; (try dsimp only at hSw); go_simp; (try (with_reducible rfl)))
  try simp only [Act.put, List.setIfInBounds_toArray, List.set_cons_zero, List.set_cons_succ]
  refine wpAnyH_take (i := 8) (oi := ⟨some 14, _, _, _, _, _⟩) (v := ?_) rfl (by kernel_rfl) (by kernel_rfl) (by kernel_rfl) (fun _ _ _ h => h) (Or.inl ⟨by rfl, ?_⟩) (by assumption) ?_
  rotate_left
  · (intro w hSw; (try dsimp only at hSw); go_simp; (try (with_reducible rfl)))
  try simp only [Act.put, List.setIfInBounds_toArray, List.set_cons_zero, List.set_cons_succ]
  refine wpAnyH_take (i := 9) (oi := ⟨some 15, _, _, _, _, _⟩) (v := ?_) rfl (by kernel_rfl) (by kernel_rfl) (by kernel_rfl) (fun _ _ _ h => h) (Or.inl ⟨by rfl, ?_⟩) (by assumption) ?_
  rotate_left
  · (intro w hSw; (try dsimp only at hSw); go_simp; (try (with_reducible rfl)))
  try simp only [Act.put, List.setIfInBounds_toArray, List.set_cons_zero, List.set_cons_succ]
  refine wpAnyH_ready (rs := [3]) (by kernel_rfl) (by simp) ?_
  refine AllReadyH.cons (o := ⟨some 9, _, _, _, _, _⟩) rfl (fun K hK => ?_) AllReadyH.nil
  go_simp
  (with_reducible refine HFC.out.mono ?_); rintro e w3 ⟨rfl, b3⟩; have d3 : Below w.heap.size w w3 := btrans (Below.refl _ _).drew b3; have k0 := nearv.cell_keep H1.out d3; have k1 := nearv.cell_keep H2.out d3; have k2 := nearv.cell_keep H3.out d3
  go_wp2_with fail
  refine hK.out _ _ (by (try dsimp only); simp [*]) (fun hHeld => ?_)
  clear hK K
  try simp only [List.setIfInBounds_toArray, List.set_cons_zero, List.set_cons_succ]
  refine wpAnyH_ready (rs := [5]) (by kernel_rfl) (by simp) ?_
  refine AllReadyH.cons (o := ⟨some 11, _, _, _, _, _⟩) rfl (fun K hK => ?_) AllReadyH.nil
  go_simp
  (with_reducible refine (HLA.out w3 d3).mono ?_); rintro e w4 ⟨rfl, b4⟩; have d4 : Below w.heap.size w w4 := btrans d3 b4; have j0 := nearv.cell_keep H1.out d4; have j1 := nearv.cell_keep H2.out d4; have j2 := nearv.cell_keep H3.out d4
  go_wp2_with fail
  refine hK.out _ _ (by (try dsimp only); simp [*]) (fun hHeld => ?_)
  clear hK K
  try simp only [List.setIfInBounds_toArray, List.set_cons_zero, List.set_cons_succ]
  refine wpAnyH_take (i := 10) (oi := ⟨some 16, _, _, _, _, _⟩) (v := ?_) rfl (by kernel_rfl) (by kernel_rfl) (by kernel_rfl) (fun _ _ _ h => h) (Or.inl ⟨by rfl, ?_⟩) (by assumption) ?_
  rotate_left
  · (intro w hSw; (try dsimp only at hSw); go_simp; (try (with_reducible rfl)))
  try simp only [Act.put, List.setIfInBounds_toArray, List.set_cons_zero, List.set_cons_succ]
  refine wpAnyH_take (i := 11) (oi := ⟨some 5, _, _, _, _, _⟩) (v := ?_) rfl (by kernel_rfl) (by kernel_rfl) (by kernel_rfl) (fun _ _ _ h => h) (Or.inl ⟨by rfl, ?_⟩) (by assumption) ?_
  rotate_left
  · (intro w hSw; (try dsimp only at hSw); go_simp; (try (with_reducible rfl)))
  try simp only [Act.put, List.setIfInBounds_toArray, List.set_cons_zero, List.set_cons_succ]
  refine wpAnyH_done (by kernel_rfl) ?_ _
  go_wp2_with fail
  go_ret
  exact ⟨rfl, d4⟩
set_option maxHeartbeats 4000000 in
set_option maxRecDepth 100000 in
theorem leastCA_any (s : Int) (kind : Nat) (f : FuncId) (v : Value) (l : List Ed) (w : World) (h : Edges w v l) (hl : l.length ≤ 1048576) (hf : ∀ n : Nat, s = (n : Int) → P2.Good (n : Int) l → FnBeg f n l kind) :
    Calls Try.prog 72 #[.agg #[.int .i64 s, v], .func (.func f) #[] #[]] w (RetI w (P2.Good s l) (lkL s l kind)) := by
  obtain ⟨A, c, rfl, -⟩ := h.form
  have hmf : ∀ (fn : Fn) (first cap : Array Value) (w : World), (Instr.makeFunc fn first cap).run Try.prog w = .ok (.func fn first cap) w := fun _ _ _ _ => rfl
  have H := Lib.hid h
  have b0 : Below w.heap.size w ((w.alloc (.cells #[.int .i64 s, .slice A l.length c] 29)).alloc (.cells #[.func (.func f) #[] #[]] 86)) := ((Below.refl _ _).alloc (Nat.le_refl _) _).alloc (by simp) _
  have g0 := (Blk.new w 29 #[.int .i64 s, .slice A l.length c]).alloc (.cells #[.func (.func f) #[] #[]] 86)
  have r0 := Blk.new (w.alloc (.cells #[.int .i64 s, .slice A l.length c] 29)) 86 #[.func (.func f) #[] #[]]
  rw [World.size_alloc] at r0
  obtain ⟨p0, p1, -, -⟩ := g0.two
  have p2 := r0.cell 0
  have HN := Lib.hid (implIsGraph_any s _ l _ (h.below b0) hl)
  have HB0 := Lib.hid b0
  have HG0 := Lib.hid g0
  have HR0 := Lib.hid r0
  have HFF := Lib.hid hf
  clear h b0 g0 r0 hf
  by_cases hgd : P2.Good s l
  · rw [goodB_yes hgd] at HN
    have HOK := Lib.hid hgd
    have h0 := hgd.1
    have h8 := hgd.2.1
    obtain ⟨n, rfl⟩ : ∃ n : Nat, s = (n : Int) := ⟨s.toNat, by omega⟩
    have hn : n ≤ 8 := by omega
    have HFB := Lib.hid (HFF.out n rfl hgd)
    have HV : Hid (lkL (n : Int) l kind = ndN (bestC (fullK n l kind) rkMin n)) := by show _ = _; unfold lkL bestK; rw [Int.toNat_natCast]
    clear hgd
    go_enter Try.func72, Try.ntmps72
    go_wp2_with fail
    refine HN.out.mono ?_
    rintro e w1 ⟨rfl, b1⟩
    have HE1 := Lib.hid (btrans HB0.out b1)
    have HG1 := Lib.hid (HG0.out.below b1 HG0.out.lt)
    have HR1 := Lib.hid (HR0.out.below b1 HR0.out.lt)
    clear p0 p1 p2 b1 HN HB0 HG0 HR0
    obtain ⟨p0, p1, -, -⟩ := HG1.out.two
    have p2 := HR1.out.cell 0
    have HCB := Lib.hid (closedBits_any n (.slice A l.length c) l w1 (H.out.below HE1.out) hl HOK.out hn)
    go_wp2_with fail
    refine HCB.out.mono ?_
    rintro e w2 ⟨A3, c3, rfl, i3, b3⟩
    have d3 : Below w1.heap.size w1 (w2.alloc (.cells #[.slice A3 (clos l n).length c3] 50)) := b3.alloc b3.size _
    have HE3 := Lib.hid (btrans HE1.out d3)
    have HG3 := Lib.hid (HG1.out.below d3 HG1.out.lt)
    have HR3 := Lib.hid (HR1.out.below d3 HR1.out.lt)
    have HK3 := Lib.hid (Blk.new w2 50 #[.slice A3 (clos l n).length c3])
    have HI3 : Hid (Nums (w2.alloc (.cells #[.slice A3 (clos l n).length c3] 50)) (.slice A3 (clos l n).length c3) (clos l n)) := i3.below ((Below.refl _ _).alloc (Nat.le_refl _) _)
    obtain ⟨k0, k1, -, -⟩ := HG3.out.two
    have k2 := HR3.out.cell 0
    have HFS := Lib.hid (firstSet_any n 104 #[.pointer (some ⟨w.heap.size + 1, 0, none⟩), .pointer (some ⟨w2.heap.size, 0, none⟩), .pointer (some ⟨w.heap.size, 0, none⟩)] (fullK n l kind) (w2.alloc (.cells #[.slice A3 (clos l n).length c3] 50)) hn
      { enter := fun _ _ => by kernel_rfl
        call := fun W hW x hx => lcaClo_any n kind x (w.heap.size + 1) w2.heap.size w.heap.size f _ (.slice A l.length c) l W ((HR3.out.below hW HR3.out.lt).cell 0) ((HK3.out.below hW HK3.out.lt).cell 0) ((HG3.out.below hW HG3.out.lt).cell 0) (HI3.out.below hW) HOK.out hn ((mem_all hn).1 hx) HFB.out } (full_allK n l kind))
    clear p0 p1 p2 b3 i3 d3 HCB
    go_wp2_with fail
    refine HFS.out.mono ?_
    rintro e w6 ⟨hyn, rfl, b6⟩
    have HE6 := Lib.hid (btrans HE3.out b6)
    have hy64 : bestC (fullK n l kind) rkMin n < 18446744073709551616 := Nat.lt_of_lt_of_le hyn (Nat.le_trans (pow_le hn) (by decide))
    have HND := Lib.hid (nodes_any (bestC (fullK n l kind) rkMin n) w6 hy64)
    clear b6 k0 k1 k2 hyn hy64
    go_wp2_with fail
    refine HND.out.mono ?_
    rintro e w7 ⟨A8, c8, rfl, o8, b8⟩
    go_wp2_with fail
    go_ret2
    rw [HV.out]
    exact RetI.yes HOK.out (own_base o8 HE6.out.size) (btrans HE6.out b8)
  · rw [goodB_no hgd] at HN
    have HNO := Lib.hid hgd
    clear hgd
    go_enter Try.func72, Try.ntmps72
    go_wp2_with fail
    refine HN.out.mono ?_
    rintro e w1 ⟨rfl, b1⟩
    have HE1 := Lib.hid (btrans HB0.out b1)
    clear p0 p1 p2 b1
    go_wp2_with fail
    go_ret2
    exact RetI.nil HNO.out HE1.out
set_option maxHeartbeats 1000000 in
set_option maxRecDepth 100000 in
theorem implLeastForcing_any (s : Int) (v : Value) (l : List Ed) (w : World) (h : Edges w v l) (hl : l.length ≤ 1048576) :
    Calls Try.prog 32 #[.agg #[.int .i64 s, v]] w (RetI w (P2.Good s l) (lkL s l 0)) := by
  obtain ⟨A, c, rfl, -⟩ := h.form
  have b0 : Below w.heap.size w (w.alloc (.cells #[.int .i64 s, .slice A l.length c] 29)) := (Below.refl _ _).alloc (Nat.le_refl _) _
  obtain ⟨p0, p1, -, -⟩ := (Blk.new w 29 #[.int .i64 s, .slice A l.length c]).two
  have HCA := Lib.hid (leastCA_any s 0 56 (.slice A l.length c) l _ (h.below b0) hl (fun n hs hg => { enter := fun _ _ => by kernel_rfl, call := fun W v c h hc => beginPlain_any n c v l W h hg (by have := hg.2.1; omega) hc }))
  have HB0 := Lib.hid b0
  clear h b0
  go_enter Try.func32, Try.ntmps32
  go_wp2_with fail
  refine HCA.out.mono ?_
  rintro e w1 ⟨A1, c1, rfl, o1, b1⟩
  go_wp2_with fail
  go_ret2
  exact ⟨A1, c1, rfl, own_base o1 HB0.out.size, btrans HB0.out b1⟩
set_option maxHeartbeats 1000000 in
set_option maxRecDepth 100000 in
theorem implLeastPower_any (s : Int) (v : Value) (l : List Ed) (w : World) (h : Edges w v l) (hl : l.length ≤ 1048576) :
    Calls Try.prog 45 #[.agg #[.int .i64 s, v]] w (RetI w (P2.Good s l) (lkL s l 1)) := by
  obtain ⟨A, c, rfl, -⟩ := h.form
  have b0 : Below w.heap.size w (w.alloc (.cells #[.int .i64 s, .slice A l.length c] 29)) := (Below.refl _ _).alloc (Nat.le_refl _) _
  obtain ⟨p0, p1, -, -⟩ := (Blk.new w 29 #[.int .i64 s, .slice A l.length c]).two
  have HCA := Lib.hid (leastCA_any s 1 83 (.slice A l.length c) l _ (h.below b0) hl (fun n hs hg => { enter := fun _ _ => by kernel_rfl, call := fun W v c h hc => beginPower_any n c v l W h hg (by have := hg.2.1; omega) hc }))
  have HB0 := Lib.hid b0
  clear h b0
  go_enter Try.func45, Try.ntmps45
  go_wp2_with fail
  refine HCA.out.mono ?_
  rintro e w1 ⟨A1, c1, rfl, o1, b1⟩
  go_wp2_with fail
  go_ret2
  exact ⟨A1, c1, rfl, own_base o1 HB0.out.size, btrans HB0.out b1⟩
set_option maxHeartbeats 1000000 in
set_option maxRecDepth 100000 in
theorem implLeastSkew_any (s : Int) (v : Value) (l : List Ed) (w : World) (h : Edges w v l) (hl : l.length ≤ 1048576) :
    Calls Try.prog 49 #[.agg #[.int .i64 s, v]] w (RetI w (P2.Good s l) (lkL s l 2)) := by
  obtain ⟨A, c, rfl, -⟩ := h.form
  have b0 : Below w.heap.size w (w.alloc (.cells #[.int .i64 s, .slice A l.length c] 29)) := (Below.refl _ _).alloc (Nat.le_refl _) _
  obtain ⟨p0, p1, -, -⟩ := (Blk.new w 29 #[.int .i64 s, .slice A l.length c]).two
  have HCA := Lib.hid (leastCA_any s 2 84 (.slice A l.length c) l _ (h.below b0) hl (fun n hs hg => { enter := fun _ _ => by kernel_rfl, call := fun W v c h hc => beginSkew_any n c v l W h hg (by have := hg.2.1; omega) hc }))
  have HB0 := Lib.hid b0
  clear h b0
  go_enter Try.func49, Try.ntmps49
  go_wp2_with fail
  refine HCA.out.mono ?_
  rintro e w1 ⟨A1, c1, rfl, o1, b1⟩
  go_wp2_with fail
  go_ret2
  exact ⟨A1, c1, rfl, own_base o1 HB0.out.size, btrans HB0.out b1⟩
end Go.Proofs.Ytfphpilabfpmjaa.forc
