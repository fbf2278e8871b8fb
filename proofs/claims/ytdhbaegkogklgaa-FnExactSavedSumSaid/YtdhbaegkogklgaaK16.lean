/- Guards: the contract of the program's CoverFamily. -/
import Derived.Handy
import Derived.Test.YtdhbaegkogklgaaK14
import Derived.Test.YtdhbaegkogklgaaK15
import Derived.Test.YtdhbaegkogklgaaK03
import Derived.Deep.DeepCutAuto
import Derived.Deep.RegionHeld3
import Derived.Deep.QuietTactic
import Derived.Test.YtdhbaegkogklgaaK13
import Derived.Maps.AppendAt
import Derived.Test.YtdhbaegkogklgaaK04
import Derived.Test.YtdhbaegkogklgaaK08
import Derived.Test.YtdhbaegkogklgaaK09
namespace Go.Proofs.Ytdhbaegkogklgaa.ups
open Go.RowKit P2 words edges ints owns good adjs fns sets rets covs bags bitsI func costs grid gridr gridl near forc
set_option linter.unusedVariables false

set_option maxHeartbeats 2000000 in
set_option maxRecDepth 100000 in
theorem cfIn_any (d c b2 : Nat) (w : World) (h : w.cell? ⟨b2, 0, none⟩ = some (.int .u64 (c : Int))) (hd : d < 256) (hc : c < 256) :
    Calls Try.prog 44 #[.int .u64 (d : Int), .pointer (some ⟨b2, 0, none⟩)] w fun e w' => e = .returned (.bool (!(onesN (d &&& c) == 1))) ∧ Below w.heap.size w w' := by
  have hyc : bits .and .u64 (d : Int) (c : Int) = ((d &&& c : Nat) : Int) := bits_and_u64_nat _ _ (by omega) (by omega)
  have hlt : d &&& c < 256 := Nat.lt_of_le_of_lt Nat.and_le_left hd
  have HCT := Lib.hid (fun (W : World) => count_any (d &&& c) W hlt)
  generalize d &&& c = y at *
  generalize onesN y = z at *
  by_cases hz : z = 1
  · have hq : (((z : Nat) : Int) != 1) = false := by rw [bne_eq_false_iff_eq]; omega
    have HV : Hid ((!(z == 1)) = false) := by show _ = _; rw [hz]; rfl
    clear hlt
    go_enter Try.func44, Try.ntmps44
    go_wp2_with fail
    refine (HCT.out _).mono ?_
    rintro e w' ⟨rfl, rfl⟩
    clear HV
    subst hz
    go_wp2_with fail
    go_ret
    exact ⟨rfl, Below.refl _ _⟩
  · have hq : (((z : Nat) : Int) != 1) = true := by rw [bne_iff_ne]; omega
    have hq2 : (((z : Nat) : Int) == 1) = false := by rw [beq_eq_false_iff_ne]; omega
    have hq3 : (z == 1) = false := by rw [beq_eq_false_iff_ne]; exact hz
    have HV : Hid ((!(z == 1)) = true) := by show _ = _; rw [hq3]; rfl
    clear hlt hz
    go_enter Try.func44, Try.ntmps44
    go_wp2_with fail
    refine (HCT.out _).mono ?_
    rintro e w' ⟨rfl, rfl⟩
    go_wp2_with fail
    go_ret
    rw [HV.out]
    exact ⟨rfl, Below.refl _ _⟩
set_option maxHeartbeats 2000000 in
set_option maxRecDepth 100000 in
theorem cfClo_any (c b1 : Nat) (vq : Value) (q : List (List Int)) (w : World) (h : w.cell? ⟨b1, 0, none⟩ = some vq) (hq : Nums w vq (q.map codeL)) (hql : q.length ≤ 1048576) (hq8 : ∀ d ∈ q.map codeL, d < 256) (hc : c < 256) :
    Calls Try.prog 42 #[.int .u64 (c : Int), .pointer (some ⟨b1, 0, none⟩)] w fun e w' => e = .returned (.bool (!cfB q c)) ∧ Below w.heap.size w w' := by
  have hmf : ∀ (fn : Fn) (first cap : Array Value) (w : World), (Instr.makeFunc fn first cap).run Try.prog w = .ok (.func fn first cap) w := fun _ _ _ _ => rfl
  obtain ⟨Aq, cq, rfl, -⟩ := hq.form
  have b0 : Below w.heap.size w (w.alloc (.cells #[.int .u64 (c : Int)] 62)) := (Below.refl _ _).alloc (Nat.le_refl _) _
  have g0 := Blk.new w 62 #[.int .u64 (c : Int)]
  have HCF := Lib.hid (containsFuncU_any _ (q.map codeL) 44 #[.pointer (some ⟨w.heap.size, 0, none⟩)] (fun d => !(onesN (d &&& c) == 1)) _ (hq.below b0) (by rw [List.length_map]; exact hql)
    { enter := fun _ _ => by kernel_rfl
      call := fun W hW d hd => cfIn_any d c w.heap.size W ((g0.below hW g0.lt).cell 0) (hq8 d hd) hc })
  rw [cfB_any] at HCF
  have p0 := nearv.cell_keep h b0
  have HB0 := Lib.hid b0
  clear hq hq8 b0 g0
  generalize cfB q c = rv at *
  generalize q.map codeL = Q at *
  go_enter Try.func42, Try.ntmps42
  go_wp2_with fail
  refine HCF.out.mono ?_
  rintro e w1 ⟨rfl, b1⟩
  go_wp2_with fail
  go_ret
  exact ⟨rfl, btrans HB0.out b1⟩
set_option maxHeartbeats 4000000 in
set_option maxRecDepth 100000 in
theorem implCf_any (s : Int) (v : Value) (A2 : Option Addr) (c2 : Nat) (us : List Value) (q : List (List Int)) (l : List Ed) (w : World) (h : Edges w v l) (hl : l.length ≤ 1048576) (ht : ReadsG w (.slice A2 q.length c2) us q) (hql : q.length ≤ 1048576) (hqr : ∀ r ∈ q, r.length ≤ 1048576) :
    Calls Try.prog 14 #[.agg #[.int .i64 s, v], .slice A2 q.length c2] w (RetGr w (CovP s l q) (rowN (cfN s q))) := by
  have hmf : ∀ (fn : Fn) (first cap : Array Value) (w : World), (Instr.makeFunc fn first cap).run Try.prog w = .ok (.func fn first cap) w := fun _ _ _ _ => rfl
  obtain ⟨A, c, rfl, -⟩ := h.form
  have H := Lib.hid h
  have b0 : Below w.heap.size w (w.alloc (.cells #[.int .i64 s, .slice A l.length c] 30)) := (Below.refl _ _).alloc (Nat.le_refl _) _
  have HG0 := Lib.hid (Blk.new w 30 #[.int .i64 s, .slice A l.length c])
  obtain ⟨p0, p1, -, -⟩ := HG0.out.two
  have HC := Lib.hid (coverOf_any s (.slice A l.length c) A2 c2 us q l _ (h.below b0) hl (ht.below b0) hql hqr)
  have HB0 := Lib.hid b0
  clear h b0 ht
  by_cases hok : CovP s l q
  · have HOK := Lib.hid hok
    have h0 := hok.1.1
    have h8 := hok.1.2.1
    obtain ⟨n, rfl⟩ : ∃ n : Nat, s = (n : Int) := ⟨s.toNat, by omega⟩
    have hn : n ≤ 8 := by omega
    have hcv : CvP n l q := (covP_is hok.1).1 hok
    have hq8 := cv_len hn hcv
    have HQ8 : Hid (∀ d ∈ q.map codeL, d < 256) := fun d hd => by
      obtain ⟨xs, hx, rfl⟩ := List.mem_map.1 hd
      obtain ⟨k, hk⟩ := List.getElem?_of_mem hx
      exact Nat.lt_of_lt_of_le (code_lt (m := n) (cv_set hcv hk).2.1) (pow_le hn)
    have HM8 : Hid (∀ c ∈ setsK n q.length, c < 256) := fun c hc => Nat.lt_of_lt_of_le ((setsK_mem hn hq8).1 hc).1 (pow_le hn)
    have HF8 : Hid (∀ c ∈ cfK n q, c < 256) := fun c hc => HM8.out c (List.mem_filter.1 hc).1
    have HV : Hid (cfN (n : Int) q = cfK n q) := by show _ = _; unfold cfN; rw [Int.toNat_natCast]
    have HFI : Hid ((setsK n q.length).filter (fun x => !!cfB q x) = cfK n q) := by
      show _ = (setsK n q.length).filter _
      congr 1; funext x; rw [Bool.not_not]
    have hsl := setsK_len hn hq8
    have hfl : (cfK n q).length ≤ 256 := Nat.le_trans (List.length_filter_le _ _) hsl
    have HSO := Lib.hid (fun (W : World) => setsOf_own n q.length W hn hq8)
    clear hok hcv
    generalize setsK n q.length = L at *
    generalize cfK n q = F at *
    go_enter Try.func14, Try.ntmps14
    go_wp2_with fail
    refine HC.out.mono ?_
    rintro e w1 ⟨A4, N, c4, rfl, ho4, b1⟩
    rw [okG_yes HOK.out]
    obtain ⟨rfl, ho4⟩ := ho4 HOK.out
    obtain ⟨W1, hW1⟩ : ∃ W1, W1 = w1.alloc (.cells #[.slice A4 q.length c4] 57) := ⟨_, rfl⟩
    have d1 : Below w1.heap.size w1 W1 := by rw [hW1]; exact (Below.refl _ _).alloc (Nat.le_refl _) _
    have HE1 := Lib.hid (btrans HB0.out (btrans b1 d1))
    have HK1 : Hid (Blk W1 w1.heap.size 57 #[.slice A4 q.length c4]) := by show Blk _ _ _ _; rw [hW1]; exact Blk.new _ _ _
    have HN1 : Hid (Nums W1 (.slice A4 q.length c4) (q.map codeL)) := by
      have h_ : Reads w1 1 (.slice A4 q.length c4) q.length (cellsU (q.map codeL)) := Reads.of_own ho4
      show Reads W1 1 (.slice A4 q.length c4) (q.map codeL).length (cellsU (q.map codeL))
      rw [List.length_map]
      exact h_.below d1
    have hg1 := HG0.out.below (btrans b1 d1) HG0.out.lt
    clear p0 p1
    obtain ⟨p0, p1, -, -⟩ := hg1.two
    have r0 := HK1.out.cell 0
    rw [hW1] at r0 p0 p1
    have HW1 := Lib.hid hW1
    clear b1 hW1 d1 ho4 hg1
    go_wp2_with fail
    rw [← HW1.out]
    refine (HSO.out W1).mono ?_
    rintro e w2 ⟨A5, c5, rfl, o5, b2⟩
    have HDEL := Lib.hid (deleteFuncU_own W1.heap.size (.slice A5 L.length c5) L 42 #[.pointer (some ⟨w1.heap.size, 0, none⟩)] (fun x => !cfB q x) (fun W => Below W1.heap.size W1 W) w2 o5 (by omega)
      { go := fun W W' h1 h2 => h1.trans (h2.mono h1.size)
        set := fun g hg W j u h => h.setCell (p := ⟨g, j, none⟩) (o5.lt g hg).1 u }
      { enter := fun _ _ => by kernel_rfl
        call := fun W hW a ha => cfClo_any a w1.heap.size _ q W ((HK1.out.below hW HK1.out.lt).cell 0) (HN1.out.below hW) hql HQ8.out (HM8.out a ha) } b2)
    rw [HFI.out] at HDEL
    clear p0 p1 r0 o5 b2
    go_wp2_with fail
    refine HDEL.out.mono ?_
    rintro e w3 ⟨A6, c6, rfl, o6, -, hk3⟩
    have HE3 := Lib.hid (HE1.out.trans (hk3.mono HE1.out.size))
    have HRS := Lib.hid (resultsNd_any (.slice A6 F.length c6) F w3 (show Nums w3 _ _ from Reads.of_own o6) HF8.out (by omega))
    clear o6 hk3
    go_wp2_with fail
    refine HRS.out.mono ?_
    rintro e w4 ⟨A7, c7, us7, rfl, o7, b4⟩
    go_wp2_with fail
    go_ret2
    rw [HV.out, ← rowN_len F]
    exact RetGr.yes HOK.out (o7.base HE3.out.size) (btrans HE3.out b4)
  · have HNO := Lib.hid hok
    clear hok
    go_enter Try.func14, Try.ntmps14
    go_wp2_with fail
    refine HC.out.mono ?_
    rintro e w1 ⟨A4, N, c4, rfl, -, b1⟩
    rw [okG_no HNO.out]
    have HE1 := Lib.hid ((btrans HB0.out b1).alloc (btrans HB0.out b1).size (.cells #[.slice A4 N c4] 57))
    clear p0 p1 b1
    go_wp2_with fail
    go_ret2
    exact RetGr.nil HNO.out HE1.out
end Go.Proofs.Ytdhbaegkogklgaa.ups

/- Guards: the contract of the model's l10Alike. -/
namespace Go.Proofs.Ytdhbaegkogklgaa.ups
open Go.RowKit P2 words edges ints good adjs fns sets rets covs bags balls bitsI func
set_option linter.unusedVariables false

set_option maxHeartbeats 4000000 in
set_option maxRecDepth 100000 in
theorem l10Alike_any (s : Int) (v u : Value) (l : List Ed) (xs : List Int) (b : Bool) (w : World) (h : Edges w v l) (hl : l.length ≤ 1048576) (hu : Ints w u xs) (hxl : xs.length ≤ 1048576) :
    Calls Try.prog 69 #[.agg #[.int .i64 s, v], u, .bool b] w fun e w' => e = .returned (.bool (okG (AlkL l xs b))) ∧ Below w.heap.size w w' := by
  obtain ⟨A, c, rfl, -⟩ := h.form
  obtain ⟨A2, c2, rfl, hc2⟩ := hu.form
  have H := Lib.hid h
  have HC2 := Lib.hid hc2
  have HB0 : Hid (Below w.heap.size w (w.alloc (.cells #[.int .i64 s, .slice A l.length c] 30))) := (Below.refl _ _).alloc (Nat.le_refl _) _
  have HG0 := Lib.hid (Blk.new w 30 #[.int .i64 s, .slice A l.length c])
  clear h hu hc2
  go_enter Try.func69, Try.ntmps69
  go_wp2_with fail
  go_loopg [7] xs.length (fun g iv wr => ∃ i : Nat, i + g = xs.length ∧ iv = .int .i64 (i : Int) ∧ Hid (AlkA l xs b i) ∧ Blk wr w.heap.size 30 #[.int .i64 s, .slice A l.length c] ∧ Below w.heap.size w wr)
  case atStart => exact ⟨0, by omega, rfl, fun a b x y h => by omega, HG0.out, HB0.out⟩
  case round =>
    clear HG0 HB0
    obtain ⟨i, hig, rfl, hcl, hgb, hB⟩ := hrel
    have HG := Lib.hid hgb
    have HB := Lib.hid hB
    cases gk with
    | zero =>
      have HV : Hid (okG (AlkL l xs b) = true) := okG_yes (hcl.out.done (by omega))
      obtain rfl : i = xs.length := by omega
      clear hgb hB
      go_wp2_with fail
      go_ret
      rw [HV.out]
      exact ⟨rfl, HB.out⟩
    | succ g2 =>
      have hlt : i < xs.length := by omega
      have hlt' : (i : Int) < (xs.length : Int) := by omega
      obtain ⟨x, hx⟩ : ∃ x, xs[i]? = some x := ⟨_, List.getElem?_eq_getElem hlt⟩
      obtain ⟨g5, o5, rfl, c5⟩ := HC2.out i _ hx
      have HX := Lib.hid hx
      have HI : Hid (AlkB l xs b i 0) := ⟨hcl.out, fun k x y h => by omega⟩
      have HC5 := Lib.hid c5
      clear hx c5 hgb hB hcl
      go_wp2_with fail
      obtain ⟨wo, hwo⟩ : ∃ wo, wo = wr := ⟨_, rfl⟩
      subst hwo
      go_loopg [8] i (fun g kv wr => ∃ k : Nat, k + g = i ∧ kv = .int .i64 (k : Int) ∧ Hid (AlkB l xs b i k) ∧ Blk wr w.heap.size 30 #[.int .i64 s, .slice A l.length c] ∧ Below w.heap.size w wr)
      case atStart => exact ⟨0, by omega, rfl, HI, HG.out, HB.out⟩
      case round =>
        clear HI HG HB
        obtain ⟨k, hkg, rfl, hcl, hgb, hB⟩ := hrel
        obtain ⟨p0, p1, -, -⟩ := hgb.two
        have HG := Lib.hid hgb
        have HB := Lib.hid hB
        cases gk with
        | zero =>
          obtain rfl : k = i := by omega
          have HN := Lib.hid (hcl.out.all (Nat.le_refl _))
          clear hgb hB hcl p0 p1
          obtain ⟨p0, p1, -, -⟩ := HG.out.two
          go_wp2_with fail
          go_roundg g2
          case measure => omega
          case rel => exact ⟨k + 1, by omega, by go_num, HN, HG.out, HB.out⟩
        | succ g4 =>
          have hklt : k < xs.length := by omega
          have hklt' : (k : Int) < (xs.length : Int) := by omega
          have hki' : (k : Int) < (i : Int) := by omega
          obtain ⟨y, hy⟩ : ∃ y, xs[k]? = some y := ⟨_, List.getElem?_eq_getElem hklt⟩
          obtain ⟨_, _, hf, c6⟩ := HC2.out k _ hy
          cases hf
          have q5 := nearv.cell_keep HC5.out hB
          have q6 := nearv.cell_keep c6 hB
          have HNR := Lib.hid (l2Near_any s x y (.slice A l.length c) l wr.drew (H.out.below hB.drew) hl)
          have HIJ : Hid (k < i) := by
            show _ < _
            omega
          by_cases hj : adj l x y = b
          · have HN := Lib.hid (hcl.out.next HX.out hy hj)
            have hq : (adj l x y == b) = true := by rw [hj]; simp
            clear hy c6 hgb hB hcl hj HIJ
            generalize adj l x y = q at *
            go_wp2_with fail
            refine wp_region_held_drew (S := (fun w' : World => w'.cell? ⟨w.heap.size, 0, none⟩ = some (.int .i64 s) ∧ w'.cell? ⟨w.heap.size, 1, none⟩ = some (.slice A l.length c) ∧ w'.cell? ⟨g5, o5 + i, none⟩ = some (.int .i64 x) ∧ w'.cell? ⟨g5, o5 + k, none⟩ = some (.int .i64 y))) (by kernel_rfl) (by (try dsimp only); simp [*]) (fun hHeld => ?_)
            change wpAnyH _ _ _ _ _ _ #[false, false, false, false, false, false, false, false, false, false, false, false] _ _
            refine wpAnyH_take (i := 0) (oi := ⟨some 20, _, _, _, _, _⟩) (v := ?_) rfl (by kernel_rfl) (by kernel_rfl) (by kernel_rfl) (fun _ _ _ h => h) (Or.inl ⟨by rfl, ?_⟩) (by assumption) ?_
            rotate_left
            · (intro w hSw; (try dsimp only at hSw); go_simp; (try (with_reducible rfl)))
            try simp only [Act.put, List.setIfInBounds_toArray, List.set_cons_zero, List.set_cons_succ]
            refine wpAnyH_take (i := 1) (oi := ⟨some 21, _, _, _, _, _⟩) (v := ?_) rfl (by kernel_rfl) (by kernel_rfl) (by kernel_rfl) (fun _ _ _ h => h) (Or.inl ⟨by rfl, ?_⟩) (by assumption) ?_
            rotate_left
            · (intro w hSw; (try dsimp only at hSw); go_simp; (try (with_reducible rfl)))
            try simp only [Act.put, List.setIfInBounds_toArray, List.set_cons_zero, List.set_cons_succ]
            refine wpAnyH_take (i := 2) (oi := ⟨some 22, _, _, _, _, _⟩) (v := ?_) rfl (by kernel_rfl) (by kernel_rfl) (by kernel_rfl) (fun _ _ _ h => h) (Or.inl ⟨by rfl, ?_⟩) (by assumption) ?_
            rotate_left
            · (intro w hSw; (try dsimp only at hSw); go_simp; (try (with_reducible rfl)))
            try simp only [Act.put, List.setIfInBounds_toArray, List.set_cons_zero, List.set_cons_succ]
            refine wpAnyH_take (i := 3) (oi := ⟨some 23, _, _, _, _, _⟩) (v := ?_) rfl (by kernel_rfl) (by kernel_rfl) (by kernel_rfl) (fun _ _ _ h => h) (Or.inl ⟨by rfl, ?_⟩) (by assumption) ?_
            rotate_left
            · (intro w hSw; (try dsimp only at hSw); go_simp; (try (with_reducible rfl)))
            try simp only [Act.put, List.setIfInBounds_toArray, List.set_cons_zero, List.set_cons_succ]
            refine wpAnyH_take (i := 4) (oi := ⟨some 24, _, _, _, _, _⟩) (v := ?_) rfl (by kernel_rfl) (by kernel_rfl) (by kernel_rfl) (fun _ _ _ h => h) (Or.inl ⟨by rfl, ?_⟩) (by assumption) ?_
            rotate_left
            · (intro w hSw; (try dsimp only at hSw); go_simp; (try (with_reducible rfl)))
            try simp only [Act.put, List.setIfInBounds_toArray, List.set_cons_zero, List.set_cons_succ]
            refine wpAnyH_take (i := 5) (oi := ⟨some 25, _, _, _, _, _⟩) (v := ?_) rfl (by kernel_rfl) (by kernel_rfl) (by kernel_rfl) (fun _ _ _ h => h) (Or.inl ⟨by rfl, ?_⟩) (by assumption) ?_
            rotate_left
            · (intro w hSw; (try dsimp only at hSw); go_simp; (try (with_reducible rfl)))
            try simp only [Act.put, List.setIfInBounds_toArray, List.set_cons_zero, List.set_cons_succ]
            refine wpAnyH_take (i := 6) (oi := ⟨some 26, _, _, _, _, _⟩) (v := ?_) rfl (by kernel_rfl) (by kernel_rfl) (by kernel_rfl) (fun _ _ _ h => h) (Or.inl ⟨by rfl, ?_⟩) (by assumption) ?_
            rotate_left
            · (intro w hSw; (try dsimp only at hSw); go_simp; (try (with_reducible rfl)))
            try simp only [Act.put, List.setIfInBounds_toArray, List.set_cons_zero, List.set_cons_succ]
            refine wpAnyH_take (i := 7) (oi := ⟨some 27, _, _, _, _, _⟩) (v := ?_) rfl (by kernel_rfl) (by kernel_rfl) (by kernel_rfl) (fun _ _ _ h => h) (Or.inl ⟨by rfl, ?_⟩) (by assumption) ?_
            rotate_left
            · (intro w hSw; (try dsimp only at hSw); go_simp; (try (with_reducible rfl)))
            try simp only [Act.put, List.setIfInBounds_toArray, List.set_cons_zero, List.set_cons_succ]
            refine wpAnyH_take (i := 8) (oi := ⟨some 28, _, _, _, _, _⟩) (v := ?_) rfl (by kernel_rfl) (by kernel_rfl) (by kernel_rfl) (fun _ _ _ h => h) (Or.inl ⟨by rfl, ?_⟩) (by assumption) ?_
            rotate_left
            · (intro w hSw; (try dsimp only at hSw); go_simp; (try (with_reducible rfl)))
            try simp only [Act.put, List.setIfInBounds_toArray, List.set_cons_zero, List.set_cons_succ]
            refine wpAnyH_take (i := 10) (oi := ⟨some 30, _, _, _, _, _⟩) (v := ?_) rfl (by kernel_rfl) (by kernel_rfl) (by kernel_rfl) (fun _ _ _ h => h) (Or.inl ⟨by rfl, ?_⟩) (by assumption) ?_
            rotate_left
            · (intro w hSw; (try dsimp only at hSw); go_simp; (try (with_reducible rfl)))
            try simp only [Act.put, List.setIfInBounds_toArray, List.set_cons_zero, List.set_cons_succ]
            refine wpAnyH_ready (rs := [9]) (by kernel_rfl) (by simp) ?_
            refine AllReadyH.cons (o := ⟨some 29, _, _, _, _, _⟩) rfl (fun K hK => ?_) AllReadyH.nil
            go_simp
            refine HNR.out.mono ?_; rintro e w3 ⟨rfl, b3⟩; have d3 : Below wr.heap.size wr w3 := btrans (Below.refl _ _).drew b3; obtain ⟨k0, k1, -, -⟩ := (HG.out.below d3 HG.out.lt).two; have q7 := nearv.cell_keep q5 d3; have q8 := nearv.cell_keep q6 d3
            go_wp2_with fail
            refine hK.out _ _ (by (try dsimp only); simp [*]) (fun hHeld => ?_)
            clear hK K
            try simp only [List.setIfInBounds_toArray, List.set_cons_zero, List.set_cons_succ]
            refine wpAnyH_take (i := 11) (oi := ⟨some 31, _, _, _, _, _⟩) (v := ?_) rfl (by kernel_rfl) (by kernel_rfl) (by kernel_rfl) (fun _ _ _ h => h) (Or.inl ⟨by rfl, ?_⟩) (by assumption) ?_
            rotate_left
            · (intro w hSw; (try dsimp only at hSw); go_simp; (try (with_reducible rfl)))
            try simp only [Act.put, List.setIfInBounds_toArray, List.set_cons_zero, List.set_cons_succ]
            refine wpAnyH_done (by kernel_rfl) ?_ _
            have HG3 := Lib.hid (HG.out.below d3 HG.out.lt)
            have HB3 := Lib.hid (btrans HB.out d3)
            clear b3 d3 k0 k1 q7 q8 q5 q6 p0 p1 hHeld
            go_wp2_with fail
            go_roundg g4
            case measure => omega
            case rel => exact ⟨k + 1, by omega, by go_num, HN, HG3.out, HB3.out⟩
          · have HV : Hid (okG (AlkL l xs b) = false) := okG_no fun h_ => hj (h_ i k x y HIJ.out HX.out hy)
            have hq : (adj l x y == b) = false := by simpa using hj
            clear hy c6 hgb hB hcl hj HIJ
            generalize adj l x y = q at *
            go_wp2_with fail
            refine wp_region_held_drew (S := (fun w' : World => w'.cell? ⟨w.heap.size, 0, none⟩ = some (.int .i64 s) ∧ w'.cell? ⟨w.heap.size, 1, none⟩ = some (.slice A l.length c) ∧ w'.cell? ⟨g5, o5 + i, none⟩ = some (.int .i64 x) ∧ w'.cell? ⟨g5, o5 + k, none⟩ = some (.int .i64 y))) (by kernel_rfl) (by (try dsimp only); simp [*]) (fun hHeld => ?_)
            change wpAnyH _ _ _ _ _ _ #[false, false, false, false, false, false, false, false, false, false, false, false] _ _
            refine wpAnyH_take (i := 0) (oi := ⟨some 20, _, _, _, _, _⟩) (v := ?_) rfl (by kernel_rfl) (by kernel_rfl) (by kernel_rfl) (fun _ _ _ h => h) (Or.inl ⟨by rfl, ?_⟩) (by assumption) ?_
            rotate_left
            · (intro w hSw; (try dsimp only at hSw); go_simp; (try (with_reducible rfl)))
            try simp only [Act.put, List.setIfInBounds_toArray, List.set_cons_zero, List.set_cons_succ]
            refine wpAnyH_take (i := 1) (oi := ⟨some 21, _, _, _, _, _⟩) (v := ?_) rfl (by kernel_rfl) (by kernel_rfl) (by kernel_rfl) (fun _ _ _ h => h) (Or.inl ⟨by rfl, ?_⟩) (by assumption) ?_
            rotate_left
            · (intro w hSw; (try dsimp only at hSw); go_simp; (try (with_reducible rfl)))
            try simp only [Act.put, List.setIfInBounds_toArray, List.set_cons_zero, List.set_cons_succ]
            refine wpAnyH_take (i := 2) (oi := ⟨some 22, _, _, _, _, _⟩) (v := ?_) rfl (by kernel_rfl) (by kernel_rfl) (by kernel_rfl) (fun _ _ _ h => h) (Or.inl ⟨by rfl, ?_⟩) (by assumption) ?_
            rotate_left
            · (intro w hSw; (try dsimp only at hSw); go_simp; (try (with_reducible rfl)))
            try simp only [Act.put, List.setIfInBounds_toArray, List.set_cons_zero, List.set_cons_succ]
            refine wpAnyH_take (i := 3) (oi := ⟨some 23, _, _, _, _, _⟩) (v := ?_) rfl (by kernel_rfl) (by kernel_rfl) (by kernel_rfl) (fun _ _ _ h => h) (Or.inl ⟨by rfl, ?_⟩) (by assumption) ?_
            rotate_left
            · (intro w hSw; (try dsimp only at hSw); go_simp; (try (with_reducible rfl)))
            try simp only [Act.put, List.setIfInBounds_toArray, List.set_cons_zero, List.set_cons_succ]
            refine wpAnyH_take (i := 4) (oi := ⟨some 24, _, _, _, _, _⟩) (v := ?_) rfl (by kernel_rfl) (by kernel_rfl) (by kernel_rfl) (fun _ _ _ h => h) (Or.inl ⟨by rfl, ?_⟩) (by assumption) ?_
            rotate_left
            · (intro w hSw; (try dsimp only at hSw); go_simp; (try (with_reducible rfl)))
            try simp only [Act.put, List.setIfInBounds_toArray, List.set_cons_zero, List.set_cons_succ]
            refine wpAnyH_take (i := 5) (oi := ⟨some 25, _, _, _, _, _⟩) (v := ?_) rfl (by kernel_rfl) (by kernel_rfl) (by kernel_rfl) (fun _ _ _ h => h) (Or.inl ⟨by rfl, ?_⟩) (by assumption) ?_
            rotate_left
            · (intro w hSw; (try dsimp only at hSw); go_simp; (try (with_reducible rfl)))
            try simp only [Act.put, List.setIfInBounds_toArray, List.set_cons_zero, List.set_cons_succ]
            refine wpAnyH_take (i := 6) (oi := ⟨some 26, _, _, _, _, _⟩) (v := ?_) rfl (by kernel_rfl) (by kernel_rfl) (by kernel_rfl) (fun _ _ _ h => h) (Or.inl ⟨by rfl, ?_⟩) (by assumption) ?_
            rotate_left
            · (intro w hSw; (try dsimp only at hSw); go_simp; (try (with_reducible rfl)))
            try simp only [Act.put, List.setIfInBounds_toArray, List.set_cons_zero, List.set_cons_succ]
            refine wpAnyH_take (i := 7) (oi := ⟨some 27, _, _, _, _, _⟩) (v := ?_) rfl (by kernel_rfl) (by kernel_rfl) (by kernel_rfl) (fun _ _ _ h => h) (Or.inl ⟨by rfl, ?_⟩) (by assumption) ?_
            rotate_left
            · (intro w hSw; (try dsimp only at hSw); go_simp; (try (with_reducible rfl)))
            try simp only [Act.put, List.setIfInBounds_toArray, List.set_cons_zero, List.set_cons_succ]
            refine wpAnyH_take (i := 8) (oi := ⟨some 28, _, _, _, _, _⟩) (v := ?_) rfl (by kernel_rfl) (by kernel_rfl) (by kernel_rfl) (fun _ _ _ h => h) (Or.inl ⟨by rfl, ?_⟩) (by assumption) ?_
            rotate_left
            · (intro w hSw; (try dsimp only at hSw); go_simp; (try (with_reducible rfl)))
            try simp only [Act.put, List.setIfInBounds_toArray, List.set_cons_zero, List.set_cons_succ]
            refine wpAnyH_take (i := 10) (oi := ⟨some 30, _, _, _, _, _⟩) (v := ?_) rfl (by kernel_rfl) (by kernel_rfl) (by kernel_rfl) (fun _ _ _ h => h) (Or.inl ⟨by rfl, ?_⟩) (by assumption) ?_
            rotate_left
            · (intro w hSw; (try dsimp only at hSw); go_simp; (try (with_reducible rfl)))
            try simp only [Act.put, List.setIfInBounds_toArray, List.set_cons_zero, List.set_cons_succ]
            refine wpAnyH_ready (rs := [9]) (by kernel_rfl) (by simp) ?_
            refine AllReadyH.cons (o := ⟨some 29, _, _, _, _, _⟩) rfl (fun K hK => ?_) AllReadyH.nil
            go_simp
            refine HNR.out.mono ?_; rintro e w3 ⟨rfl, b3⟩; have d3 : Below wr.heap.size wr w3 := btrans (Below.refl _ _).drew b3; obtain ⟨k0, k1, -, -⟩ := (HG.out.below d3 HG.out.lt).two; have q7 := nearv.cell_keep q5 d3; have q8 := nearv.cell_keep q6 d3
            go_wp2_with fail
            refine hK.out _ _ (by (try dsimp only); simp [*]) (fun hHeld => ?_)
            clear hK K
            try simp only [List.setIfInBounds_toArray, List.set_cons_zero, List.set_cons_succ]
            refine wpAnyH_take (i := 11) (oi := ⟨some 31, _, _, _, _, _⟩) (v := ?_) rfl (by kernel_rfl) (by kernel_rfl) (by kernel_rfl) (fun _ _ _ h => h) (Or.inl ⟨by rfl, ?_⟩) (by assumption) ?_
            rotate_left
            · (intro w hSw; (try dsimp only at hSw); go_simp; (try (with_reducible rfl)))
            try simp only [Act.put, List.setIfInBounds_toArray, List.set_cons_zero, List.set_cons_succ]
            refine wpAnyH_done (by kernel_rfl) ?_ _
            have HB3 := Lib.hid (btrans HB.out d3)
            go_wp2_with fail
            first | go_ret | (rw [Exit.noGoto_ret]; go_ret)
            rw [HV.out]
            exact ⟨rfl, HB3.out⟩
end Go.Proofs.Ytdhbaegkogklgaa.ups

/- The contract of the program's LeastSpreading. -/
namespace Go.Proofs.Ytdhbaegkogklgaa.ups
open Go.RowKit P2 words edges ints good adjs fns sets rets covs bags bitsI func
set_option linter.unusedVariables false

/-- a set is spreading -/
noncomputable def fullB (n : Nat) (l : List Ed) (r c : Nat) : Bool := spN n l r c == 2 ^ n - 1
theorem full_all (n : Nat) (l : List Ed) (r : Nat) : fullB n l r (2 ^ n - 1) = true := by
  unfold fullB
  rw [spN_is Spr.base (full_stops rfl)]
  simp
noncomputable def lspN (n : Nat) (l : List Ed) (r : Nat) : Nat := bestC (fullB n l r) rkMin n
theorem beq_cast (a b : Nat) : (((a : Nat) : Int) == ((b : Nat) : Int)) = (a == b) := by
  rw [Bool.eq_iff_iff, beq_iff_eq, beq_iff_eq]; omega
end Go.Proofs.Ytdhbaegkogklgaa.ups

/- The contracts of the program's ballsIn, isFar, IsFarSet, largestFar, LargestFarSet and FarBound. -/
namespace Go.Proofs.Ytdhbaegkogklgaa.ups
open Go.RowKit P2 words edges ints good adjs fns sets rets covs bags bitsI func
set_option linter.unusedVariables false

theorem bne_cast (a b : Nat) : (((a : Nat) : Int) != ((b : Nat) : Int)) = !(a == b) := by
  show (!(((a : Nat) : Int) == ((b : Nat) : Int))) = _
  rw [beq_cast]
/-- another node of the set is in the ball -/
def farQ (l : List Ed) (n r c : Nat) (x : Int) : Bool := !(bN l n x.toNat r &&& c == 2 ^ x.toNat)
def FarOk (s : Int) (l : List Ed) (xs : List Int) (k : Int) : Prop := NumOk s l k ∧ SetOk s l xs
noncomputable def farV (s : Int) (l : List Ed) (xs : List Int) (k : Int) : Bool := okG (FarOk s l xs k ∧ farB l s.toNat (2 * k.toNat - 2) (codeL xs) = true)
end Go.Proofs.Ytdhbaegkogklgaa.ups

/- Guards: the contracts of the program's IsDominating, LeastDominating and LargestIndependent. -/
namespace Go.Proofs.Ytdhbaegkogklgaa.ups
open Go.RowKit P2 words edges ints good adjs fns sets rets covs bags bitsI func
set_option linter.unusedVariables false

theorem beq_castD (a b : Nat) : (((a : Nat) : Int) == ((b : Nat) : Int)) = (a == b) := by
  rw [Bool.eq_iff_iff, beq_iff_eq, beq_iff_eq]; omega
def DomP (s : Int) (l : List Ed) (xs : List Int) : Prop := SetOk s l xs ∧ domB s.toNat l (codeL xs) = true
theorem domP_is {n : Nat} {l : List Ed} {xs : List Int} (h : SetOk (n : Int) l xs) : okG (DomP (n : Int) l xs) = domB n l (codeL xs) := by
  unfold DomP
  rw [Int.toNat_natCast, Bool.eq_iff_iff, okG_iff]
  exact ⟨fun h => h.2, fun h2 => ⟨h, h2⟩⟩
noncomputable def ldN (n : Nat) (l : List Ed) : Nat := bestC (domB n l) rkMin n
noncomputable def liN (n : Nat) (l : List Ed) : Nat := bestC (farB l n 1) rkMax n
end Go.Proofs.Ytdhbaegkogklgaa.ups

/- The contracts of the model's l4Less over lists of the same length, and of LeastSpreading. -/
namespace Go.Proofs.Ytdhbaegkogklgaa.ups
open Go.RowKit P2 words edges ints good adjs fns sets rets covs bags balls bitsI func
set_option linter.unusedVariables false

theorem dropI {L : List Int} {i : Nat} {x : Int} (h : L[i]? = some x) : L.drop i = x :: L.drop (i + 1) := by
  obtain ⟨h1, h2⟩ := List.getElem?_eq_some_iff.1 h
  rw [List.drop_eq_getElem_cons h1, h2]
theorem lexI_same {a b : List Int} {i : Nat} {x : Int} (ha : a[i]? = some x) (hb : b[i]? = some x) : lexI (a.drop i) (b.drop i) = lexI (a.drop (i + 1)) (b.drop (i + 1)) := by
  rw [dropI ha, dropI hb]; show (if x = x then _ else _) = _; rw [if_pos rfl]
theorem lexI_diff {a b : List Int} {i : Nat} {x y : Int} (ha : a[i]? = some x) (hb : b[i]? = some y) (h : x ≠ y) : lexI (a.drop i) (b.drop i) = decide (x < y) := by
  rw [dropI ha, dropI hb]; show (if x = y then _ else _) = _; rw [if_neg h]
theorem lexI_end {a b : List Int} : lexI (a.drop a.length) b = false := by
  rw [List.drop_length]; cases b <;> rfl
theorem full_len {n : Nat} {l : List Ed} {r c : Nat} (hn : n ≤ 8) (h : spN n l r c < 2 ^ n) : fullB n l r c = decide (¬ (nw (bitB (spN n l r c)) n).length < n) := by
  have h8 := Nat.lt_of_lt_of_le h (pow_le hn)
  have h1 := ones_full ⟨n, by omega⟩ ⟨spN n l r c, h8⟩ h
  have h2 := ones_topN hn h
  rw [nd_bits hn h, nd_len]
  unfold fullB
  simp only at h1
  rw [Bool.eq_iff_iff, beq_iff_eq, decide_eq_true_iff, ← h1]
  omega
theorem lsp_len (s : Int) (l : List Ed) (r : Int) : (inG (NumOk s l r) (ndN (lspN s.toNat l r.toNat))).length ≤ 1048576 := inG_len fun _ => by
  unfold ndN
  have := nw_len (bitB (lspN s.toNat l r.toNat)) 8
  omega
end Go.Proofs.Ytdhbaegkogklgaa.ups
