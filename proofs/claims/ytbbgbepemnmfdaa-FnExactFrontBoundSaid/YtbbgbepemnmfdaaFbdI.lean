/- FrontBound: mathematics, and the contract of the program's function. -/
import Derived.Handy
import Derived.Test.YtbbgbepemnmfdaaUpsB
import Derived.Test.YtbbgbepemnmfdaaFrontI
import Derived.Test.YtbbgbepemnmfdaaRepB
import Derived.Test.YtbbgbepemnmfdaaMaxI
import Derived.Deep.DeepCutAuto
import Derived.Deep.RegionHeld3
import Derived.StillTailTactics
namespace Go.Proofs.Ytbbgbepemnmfdaa.ups
open Go.RowKit P2 words edges ints good adjs fns sets rets covs bags bitsI func fronts reps
set_option linter.unusedVariables false

theorem numb2 {n g : Nat} (hg : g < 2 ^ n) : numOf (bitB g) n = g := by
  apply Nat.eq_of_testBit_eq
  intro i
  rw [numOf_bit]
  unfold bitB
  by_cases hi : i < n
  · simp [hi]
  · rw [decide_eq_false hi, Bool.false_and, Nat.testBit_lt_two_pow (Nat.lt_of_lt_of_le hg (Nat.pow_le_pow_right (by decide) (by omega)))]
/-- how many nodes the front of a set has -/
noncomputable def frC (l : List Ed) (n c : Nat) : Nat := (nw (frontB l n (bitB c)) n).length
theorem frC_ones (l : List Ed) {n c : Nat} (hn : n ≤ 8) : onesN (numOf (frontB l n (bitB c)) n) = frC l n c := ones_num _ hn
theorem frC_le (l : List Ed) {n c : Nat} (hn : n ≤ 8) (hc : c < 2 ^ n) : frC l n c ≤ onesN c := by
  have h := nd_len c
  rw [← nd_bits hn hc] at h
  rw [← h]
  unfold frC nw
  rw [List.length_map, List.length_map, ← List.countP_eq_length_filter, ← List.countP_eq_length_filter]
  exact List.countP_mono_left fun k hk hf => (frontB_iff.1 hf).1
/-- the least front of the sets of m nodes -/
def MinF (l : List Ed) (n m : Nat) (v : Int) : Prop := (∃ c, c < 2 ^ n ∧ onesN c = m ∧ (frC l n c : Int) = v) ∧ ∀ c, c < 2 ^ n → onesN c = m → v ≤ (frC l n c : Int)
theorem MinF.same {l : List Ed} {n m : Nat} {u v : Int} (h : MinF l n m u) (k : MinF l n m v) : u = v := by
  obtain ⟨c, h1, h2, h3⟩ := h.1
  obtain ⟨d, k1, k2, k3⟩ := k.1
  have := h.2 d k1 k2
  have := k.2 c h1 h2
  omega
def GrF (l : List Ed) (n : Nat) (v : Int) : Prop := (∃ m, m ≤ n ∧ MinF l n m v) ∧ ∀ m u, m ≤ n → MinF l n m u → u ≤ v
theorem GrF.same {l : List Ed} {n : Nat} {u v : Int} (h : GrF l n u) (k : GrF l n v) : u = v := by
  obtain ⟨m, h1, h2⟩ := h.1
  obtain ⟨d, k1, k2⟩ := k.1
  have := h.2 d v k1 k2
  have := k.2 m u h1 h2
  omega
noncomputable def fbdN (l : List Ed) (n : Nat) : Int := Classical.epsilon fun v => GrF l n v
theorem fbdN_is {l : List Ed} {n : Nat} {v : Int} (h : GrF l n v) : fbdN l n = v :=
  (Classical.epsilon_spec (p := fun v => GrF l n v) ⟨v, h⟩).same h
noncomputable def fbdV (s : Int) (l : List Ed) : Int := szG (P2.Good s l) (fbdN l s.toNat)
theorem ones_ex : ∀ n : Fin 9, ∀ m : Fin 9, m.1 ≤ n.1 → onesN (2 ^ m.1 - 1) = m.1 ∧ 2 ^ m.1 - 1 < 2 ^ n.1 := by decide +kernel
/-- the table behind the first k sets -/
def FewT (l : List Ed) (n : Nat) (L : List Nat) (k : Nat) (F : Nat → Int) : Prop :=
  ∀ m, m ≤ n → F m ≤ (n : Int) ∧ (F m = (n : Int) ∨ ∃ c ∈ L.take k, onesN c = m ∧ (frC l n c : Int) = F m) ∧ ∀ c ∈ L.take k, onesN c = m → F m ≤ (frC l n c : Int)
def putF (F : Nat → Int) (m : Nat) (v : Int) : Nat → Int := fun y => if y = m then v else F y
theorem FewT.start (l : List Ed) (n : Nat) (L : List Nat) : FewT l n L 0 (fun _ => (n : Int)) := fun m _ => ⟨Int.le_refl _, .inl rfl, fun c hc => by simp at hc⟩
theorem FewT.next {l : List Ed} {n : Nat} {L : List Nat} {k c : Nat} {F : Nat → Int} (h : FewT l n L k F) (hc : L[k]? = some c) : FewT l n L (k + 1) (putF F (onesN c) (min (F (onesN c)) (frC l n c : Int))) := fun m hm => by
  have hmt : ∀ x, x ∈ L.take (k + 1) ↔ x ∈ L.take k ∨ x = c := fun x => by rw [List.take_add_one, hc]; simp
  obtain ⟨h1, h2, h3⟩ := h m hm
  unfold putF
  by_cases e : m = onesN c
  · subst e
    rw [if_pos rfl]
    refine ⟨by omega, ?_, fun x hx ho => ?_⟩
    · by_cases hle : F (onesN c) ≤ (frC l n c : Int)
      · rw [Int.min_eq_left hle]
        exact h2.imp id fun ⟨d, hd, h4, h5⟩ => ⟨d, (hmt d).2 (.inl hd), h4, h5⟩
      · rw [Int.min_eq_right (by omega)]
        exact .inr ⟨c, (hmt c).2 (.inr rfl), rfl, rfl⟩
    · rcases (hmt x).1 hx with hx | rfl
      · have := h3 x hx ho; omega
      · omega
  · rw [if_neg e]
    refine ⟨h1, h2.imp id fun ⟨d, hd, h4, h5⟩ => ⟨d, (hmt d).2 (.inl hd), h4, h5⟩, fun x hx ho => ?_⟩
    rcases (hmt x).1 hx with hx | rfl
    · exact h3 x hx ho
    · exact absurd ho.symm e
theorem FewT.min {l : List Ed} {n : Nat} {F : Nat → Int} (hn : n ≤ 8) (h : FewT l n (setsN n n) (setsN n n).length F) {m : Nat} (hm : m ≤ n) : MinF l n m (F m) := by
  obtain ⟨h1, h2, h3⟩ := h m hm
  rw [List.take_length] at h2 h3
  have hall : ∀ c, c < 2 ^ n → onesN c = m → F m ≤ (frC l n c : Int) := fun c hc ho => h3 c ((mem_all hn).2 hc) ho
  refine ⟨?_, hall⟩
  rcases h2 with h2 | ⟨c, hc, h4, h5⟩
  · obtain ⟨k1, k2⟩ := ones_ex ⟨n, by omega⟩ ⟨m, by omega⟩ hm
    simp only at k1 k2
    have h6 := hall _ k2 k1
    have h7 := frC_le l hn k2
    exact ⟨2 ^ m - 1, k2, k1, by omega⟩
  · exact ⟨c, (mem_all hn).1 hc, h4, h5⟩
theorem cells_setI (D : List Int) (y : Nat) (u : Int) : (cellsI D).set y (.int .i64 u) = cellsI (D.set y u) := by simp [cellsI, List.map_set]
def rowN (n : Nat) (F : Nat → Int) : List Int := (List.range (n + 1)).map F
theorem rowN_len (n : Nat) (F : Nat → Int) : (rowN n F).length = n + 1 := by simp [rowN]
theorem rowN_at {n m : Nat} {F : Nat → Int} (h : m ≤ n) : (rowN n F)[m]? = some (F m) := by simp [rowN, show m < n + 1 from by omega]
theorem rowN_set {n m : Nat} {F : Nat → Int} {v : Int} (h : m ≤ n) : (rowN n F).set m v = rowN n (putF F m v) := by
  apply List.ext_getElem?
  intro j
  rw [List.getElem?_set, rowN_len]
  by_cases hj : j ≤ n
  · rw [rowN_at hj, rowN_at hj]
    unfold putF
    by_cases e : m = j
    · subst e; rw [if_pos rfl, if_pos (by omega), if_pos rfl]
    · rw [if_neg e, if_neg (fun h => e h.symm)]
  · rw [List.getElem?_eq_none (by rw [rowN_len]; omega), List.getElem?_eq_none (by rw [rowN_len]; omega), if_neg (by omega)]
theorem rowN_const (n : Nat) (v : Int) : rowN n (fun _ => v) = List.replicate (n + 1) v := by
  unfold rowN
  apply List.ext_getElem?
  intro j
  rw [List.getElem?_replicate]
  by_cases hj : j < n + 1
  · rw [if_pos hj]; simp [hj]
  · rw [if_neg hj, List.getElem?_eq_none (by simp; omega)]
theorem mul64_nine (n : Nat) (hn : n ≤ 8) (w : World) :
    Calls Try.prog 142 #[.int .u64 1, .int .u64 ((n + 1 : Nat) : Int)] w fun e w' => e = .returned (.tuple #[.int .u64 0, .int .u64 ((n + 1 : Nat) : Int)]) ∧ w = w' := by
  have hc : n = 0 ∨ n = 1 ∨ n = 2 ∨ n = 3 ∨ n = 4 ∨ n = 5 ∨ n = 6 ∨ n = 7 ∨ n = 8 := by omega
  rcases hc with rfl | rfl | rfl | rfl | rfl | rfl | rfl | rfl | rfl
  all_goals
    simp only [Nat.reduceAdd]
    go_enter Try.func142, Try.ntmps142
    go_wp2_with fail
    go_ret2
    exact ⟨rfl, rfl⟩
theorem mul_nine (n : Nat) (hn : n ≤ 8) (w : World) :
    Calls Try.prog 107 #[.int .u64 1, .int .u64 ((n + 1 : Nat) : Int)] w fun e w' => e = .returned (.tuple #[.int .u64 0, .int .u64 ((n + 1 : Nat) : Int)]) ∧ w = w' := by
  have HM := Lib.hid (mul64_nine n hn w)
  obtain ⟨q, hq⟩ : ∃ q : Nat, q = n + 1 := ⟨_, rfl⟩
  rw [← hq] at HM ⊢
  have h1 : (q : Int) ≤ 9 := by omega
  clear hq hn
  go_enter Try.func107, Try.ntmps107
  go_wp2_with fail
  refine HM.out.mono ?_
  rintro e w' ⟨rfl, rfl⟩
  go_wp2_with fail
  go_ret2
  exact ⟨rfl, rfl⟩
set_option maxHeartbeats 4000000 in
set_option maxRecDepth 100000 in
theorem implFbd_any (s : Int) (v : Value) (l : List Ed) (w : World) (h : Edges w v l) (hl : l.length ≤ 1048576) :
    Calls Try.prog 25 #[.agg #[.int .i64 s, v]] w fun e w' => e = .returned (.tuple #[.int .i64 (fbdV s l), .bool (goodB s l)]) ∧ Below w.heap.size w w' := by
  obtain ⟨A, c, rfl, -⟩ := h.form
  have H := Lib.hid h
  have b0 : Below w.heap.size w (w.alloc (.cells #[.int .i64 s, .slice A l.length c] 29)) := (Below.refl _ _).alloc (Nat.le_refl _) _
  have g0 := Blk.new w 29 #[.int .i64 s, .slice A l.length c]
  obtain ⟨p0, p1, -, -⟩ := g0.two
  have HG := Lib.hid (implIsGraph_any s _ l _ (h.below b0) hl)
  have HB0 := Lib.hid b0
  have HG0 := Lib.hid g0
  clear h b0 g0
  by_cases hgd : P2.Good s l
  · rw [goodB_yes hgd] at HG ⊢
    have h0 := hgd.1
    have h8 := hgd.2.1
    obtain ⟨n, rfl⟩ : ∃ n : Nat, s = (n : Int) := ⟨s.toNat, by omega⟩
    have hn : n ≤ 8 := by omega
    have HV : Hid (fbdV (n : Int) l = fbdN l n) := by show _ = _; unfold fbdV; rw [szG_yes hgd, Int.toNat_natCast]
    have HOK := Lib.hid hgd
    have HSU := Lib.hid (fun (W : World) => setsUpTo_own n n W hn hn)
    have HCT := Lib.hid (fun (d : Nat) (hd : d < 256) (W : World) => count_any d W hd)
    have hsl := sets_len hn hn
    have HMA := Lib.hid (fun (c : Nat) => (mem_all (n := n) (c := c) hn))
    have HPW := Lib.hid (pow_le hn)
    have HMN := Lib.hid (fun (F : Nat → Int) (h : FewT l n (setsN n n) (setsN n n).length F) (m : Nat) (hm : m ≤ n) => FewT.min hn h hm)
    have HST := Lib.hid (FewT.start l n (setsN n n))
    have HON := Lib.hid (fun (c : Nat) (hc : c < 2 ^ n) => ones_topN hn hc)
    clear hgd
    go_enter Try.func25, Try.ntmps25
    go_wp2_with fail
    refine HG.out.mono ?_
    rintro e w1 ⟨rfl, b1⟩
    have HE1 := Lib.hid (btrans HB0.out b1)
    have HG1 := Lib.hid (HG0.out.below b1 HG0.out.lt)
    clear p0 p1 b1 HG HB0 HG0
    obtain ⟨p0, p1, -, -⟩ := HG1.out.two
    have HCB := Lib.hid (closedBits_any n (.slice A l.length c) l w1 (H.out.below HE1.out) hl HOK.out hn)
    go_wp2_with fail
    refine HCB.out.mono ?_
    rintro e w2 ⟨A3, c3, rfl, i3, b3⟩
    have HE2 := Lib.hid (btrans HE1.out b3)
    have HG2 := Lib.hid (HG1.out.below b3 HG1.out.lt)
    have HI2 := Lib.hid i3
    clear p0 p1 b3 i3 HCB HE1 HG1
    obtain ⟨p0, p1, -, -⟩ := HG2.out.two
    have hn1 : IntKind.i64.wrap ((n : Int) + 1) = ((n + 1 : Nat) : Int) := by rw [show ((n : Int) + 1) = ((n + 1 : Nat) : Int) from by omega]; exact Go.IntWalk.i64_in _ (by omega)
    have HRP := Lib.hid (repeat_big (n : Int) w2.heap.size (n + 1) (w2.alloc (.cells #[.int .i64 (n : Int)] 3)) (by omega) (by omega) (fun W => mul_nine n hn W) ((Blk.new w2 3 #[.int .i64 (n : Int)]).cell 0))
    have ba : Below w2.heap.size w2 (w2.alloc (.cells #[.int .i64 (n : Int)] 3)) := (Below.refl _ _).alloc (Nat.le_refl _) _
    obtain ⟨pa0, pa1, -, -⟩ := (HG2.out.below ba HG2.out.lt).two
    go_wp2_with fail
    refine HRP.out.mono ?_
    rintro e w3 ⟨A4, c4, rfl, o4, b4⟩
    have d3 := btrans ba b4
    have HE3 := Lib.hid (btrans HE2.out d3)
    have HG3 := Lib.hid (HG2.out.below d3 HG2.out.lt)
    have hO4 := own_base (B' := w2.heap.size) o4 ba.size
    rw [← rowN_const, rowN_len] at hO4
    rw [List.length_replicate]
    obtain ⟨g4, rfl⟩ : ∃ g4, A4 = some ⟨g4, 0, none⟩ := by
      rcases hO4.2 with ⟨_, h1⟩ | ⟨g, cap, cur, h1, _⟩
      · omega
      · cases h1; exact ⟨g, rfl⟩
    have HO4 := Lib.hid hO4
    have HGL := Lib.hid (hO4.lt g4 rfl)
    have HD3 := Lib.hid d3
    clear p0 p1 pa0 pa1 o4 b4 ba d3 hO4 HRP
    obtain ⟨p0, p1, -, -⟩ := HG3.out.two
    go_wp2_with fail
    refine (HSU.out w3).mono ?_
    rintro e w4 ⟨A5, c5, rfl, o5, b5⟩
    have HO5 := Lib.hid o5
    have HB4 := Lib.hid (HD3.out.trans (b5.mono HD3.out.size))
    have HO44 := Lib.hid (own_below HO4.out b5)
    clear p0 p1 o5 b5 HO4
    generalize setsN n n = L at *
    go_wp2_with fail
    go_loopg [27] L.length (fun g iv wr => ∃ (k : Nat) (F : Nat → Int), k + g = L.length ∧ iv = .int .i64 (k : Int) ∧ Hid (FewT l n L k F) ∧ wr.ownsRow w2.heap.size 3 1 (.slice (some ⟨g4, 0, none⟩) (n + 1) c4) (n + 1) (cellsI (rowN n F)) ∧ wr.ownsRow w3.heap.size 60 1 (.slice A5 L.length c5) L.length (cellsU L) ∧ Below w2.heap.size w2 wr)
    case atStart => exact ⟨0, fun _ => (n : Int), by omega, rfl, HST, HO44.out, HO5.out, HB4.out⟩
    case round =>
      clear HST HO44 HO5 HB4
      obtain ⟨k, F, hkg, rfl, hfw, hrow, hset, hB⟩ := hrel
      have HR := Lib.hid hrow
      have HS := Lib.hid hset
      have HB := Lib.hid hB
      cases gk with
      | zero =>
        obtain rfl : k = L.length := by omega
        have hIN : Ints wr (.slice (some ⟨g4, 0, none⟩) (rowN n F).length c4) (rowN n F) := by
          have h_ := Reads.of_own hrow
          show Reads _ _ _ _ _
          rw [rowN_len]; exact h_
        have hMX := maxi.max_any (.slice (some ⟨g4, 0, none⟩) (rowN n F).length c4) (rowN n F) wr hIN (by rw [rowN_len]; omega) (by rw [rowN_len]; omega)
        rw [rowN_len] at hMX
        have HMX := Lib.hid hMX
        have HGF : Hid (∀ M, maxi.MaxIs (rowN n F) M → fbdN l n = M) := fun M hM => fbdN_is (by
          obtain ⟨h1, h2⟩ := hM
          obtain ⟨m, hm, rfl⟩ := List.mem_map.1 h2
          have hm := List.mem_range.1 hm
          have HM := HMN.out F hfw.out
          refine ⟨⟨m, by omega, HM m (by omega)⟩, fun m' u hm' hu => ?_⟩
          rw [hu.same (HM m' hm')]
          exact h1 _ (List.mem_map.2 ⟨m', List.mem_range.2 (by omega), rfl⟩))
        clear hrow hset hB hIN hMX
        go_wp2_with fail
        refine HMX.out.mono ?_
        rintro e w' ⟨M, rfl, hM, rfl⟩
        have HMM := Lib.hid (HGF.out M hM)
        clear hM
        go_wp2_with fail
        go_ret2
        rw [HV.out, HMM.out]
        exact ⟨rfl, btrans HE2.out HB.out⟩
      | succ g2 =>
        have hlt : k < L.length := by omega
        have hlt' : (k : Int) < (L.length : Int) := by omega
        obtain ⟨c, hc⟩ : ∃ c, L[k]? = some c := ⟨_, List.getElem?_eq_getElem hlt⟩
        have hcn := (HMA.out c).1 (List.mem_of_getElem? hc)
        have hc8 : c < 256 := Nat.lt_of_lt_of_le hcn HPW.out
        have hon := HON.out c hcn
        have hon' : (onesN c : Int) < ((n + 1 : Nat) : Int) := by omega
        have hon2 : (onesN c : Int) < (n : Int) + 1 := by omega
        obtain ⟨_, _, hf2, hcc⟩ := (show Nums wr (.slice A5 L.length c5) L from Reads.of_own hset).form
        cases hf2
        obtain ⟨g5, o5, rfl, q5⟩ := hcc k c hc
        have hFI := frontIn_any n (bitB c) (.slice A3 (clos l n).length c3) l wr.drew ((HI2.out.below hB).below (Below.refl _ _).drew) HOK.out hn
        rw [numb2 hcn] at hFI
        have hfl := numOf_lt (frontB l n (bitB c)) hn
        have HC1 := Lib.hid (HCT.out c hc8)
        have HC2 := Lib.hid (HCT.out (numOf (frontB l n (bitB c)) n) hfl)
        rw [frC_ones l hn] at HC2
        have HFI := Lib.hid hFI
        have HN := Lib.hid (hfw.out.next hc)
        have f0 := hrow.cellAt (onesN c) (by omega)
        rw [cellsI_at (rowN_at hon)] at f0
        have z0 := hrow.frozenAt (onesN c)
        clear hcc hFI hfl hc hcn hrow hset hB
        go_wp2_with fail
        refine (HC1.out _).mono ?_
        rintro e w' ⟨rfl, rfl⟩
        clear q5
        go_wp2_with fail
        have HMF : Hid (∀ a b : Int, (if b < a then b else a) = min a b) := fun a b => by split <;> omega
        have hst := (HR.out.stored (onesN c) (.int .i64 (min (F (onesN c)) (frC l n c : Int)))).1
        rw [cells_setI, rowN_set hon] at hst
        go_still_tail 12, (by kernel_rfl)
        still_call (HFI.out.mono fun _ _ ⟨he, hw⟩ => ⟨he, hw.symm⟩)
        repeat still_step
        still_call ((HC2.out _).mono fun _ _ ⟨he, hw⟩ => ⟨he, hw.symm⟩)
        repeat still_step
        refine wpStill_nil ?_
        change wpList _ _ _ _ _ wr.drew
        have hrd := own_below HR.out (Below.refl wr.heap.size wr).drew
        have HSD := Lib.hid (own_below HS.out (Below.refl wr.heap.size wr).drew)
        have HBD : Hid (Below w2.heap.size w2 wr.drew) := HB.out.drew
        clear f0 z0 hst
        generalize wr.drew = wd at *
        have f0 := hrd.cellAt (onesN c) (by omega)
        rw [cellsI_at (rowN_at hon)] at f0
        have z0 := hrd.frozenAt (onesN c)
        have hst := (hrd.stored (onesN c) (.int .i64 (min (F (onesN c)) (frC l n c : Int)))).1
        rw [cells_setI, rowN_set hon] at hst
        have HST := Lib.hid hst
        have HS2 := Lib.hid (HSD.out.kept (gset (World.grownBy.refl wd (some g4)) (onesN c) (.int .i64 (min (F (onesN c)) (frC l n c : Int)))) (by
          cases hv : (Value.slice (some ⟨g5, o5, none⟩) L.length c5).ownBlock with
          | none => exact .inl rfl
          | some q => exact .inr fun e => by cases e; have h1 := (HSD.out.lt _ hv).1; have h2 := HGL.out.2; omega))
        have HB2 := Lib.hid (HBD.out.setCell (p := ⟨g4, onesN c, none⟩) HGL.out.1 (.int .i64 (min (F (onesN c)) (frC l n c : Int))))
        have hmi : (if (frC l n c : Int) < F (onesN c) then (frC l n c : Int) else F (onesN c)) = min (F (onesN c)) (frC l n c : Int) := by split <;> omega
        have HMI := Lib.hid hmi
        clear hst hrd hmi
        simp only [HMI.out]
        generalize min (F (onesN c)) (frC l n c : Int) = mn at *
        generalize frC l n c = fr at *
        go_wp2_with fail
        go_roundg g2
        case measure => omega
        case rel => exact ⟨k + 1, _, by omega, by go_num, HN, HST.out, HS2.out, HB2.out⟩
  · rw [goodB_no hgd] at HG ⊢
    have HV : Hid (fbdV s l = 0) := szG_no hgd _
    clear hgd
    go_enter Try.func25, Try.ntmps25
    go_wp2_with fail
    refine HG.out.mono ?_
    rintro e w1 ⟨rfl, b1⟩
    have HE1 := Lib.hid (btrans HB0.out b1)
    clear p0 p1 b1
    go_wp2_with fail
    go_ret2
    rw [HV.out]
    exact ⟨rfl, HE1.out⟩
end Go.Proofs.Ytbbgbepemnmfdaa.ups
