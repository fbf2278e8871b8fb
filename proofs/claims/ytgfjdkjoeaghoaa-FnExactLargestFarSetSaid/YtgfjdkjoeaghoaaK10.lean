/- The contracts of the model's l4Less over lists of the same length, and of LeastSpreading. -/
import Derived.Handy
import Derived.Test.YtgfjdkjoeaghoaaK09
import Derived.Deep.DeepCutAuto
import Derived.Deep.RegionHeld3
import Derived.Deep.QuietTactic
import Derived.Test.YtgfjdkjoeaghoaaK01
import Derived.Test.YtgfjdkjoeaghoaaProg
import Derived.WalkLawsBesides
import Derived.WalkSpells
import Derived.IntWalk
import Derived.Deep.Slices
import Derived.Lib.SmallJoins
import Derived.OpenShut
namespace Go.Proofs.Ytgfjdkjoeaghoaa.ups
open Go.RowKit P2 words edges ints good adjs fns sets rets covs bags balls bitsI func
set_option linter.unusedVariables false

theorem dropI {L : List Int} {i : Nat} {x : Int} (h : L[i]? = some x) : L.drop i = x :: L.drop (i + 1) := by
  obtain ⟨h1, h2⟩ := List.getElem?_eq_some_iff.1 h
  rw [List.drop_eq_getElem_cons h1, h2]
theorem lexI_same {a b : List Int} {i : Nat} {x : Int} (ha : a[i]? = some x) (hb : b[i]? = some x) : lexI (a.drop i) (b.drop i) = lexI (a.drop (i + 1)) (b.drop (i + 1)) := by
  rw [dropI ha, dropI hb]; show (if x = x then _ else _) = _; rw [if_pos rfl]
theorem lexI_diff {a b : List Int} {i : Nat} {x y : Int} (ha : a[i]? = some x) (hb : b[i]? = some y) (h : x ≠ y) : lexI (a.drop i) (b.drop i) = decide (x < y) := by
  rw [dropI ha, dropI hb]; show (if x = y then _ else _) = _; rw [if_neg h]
theorem lexI_end {a b : List Int} : lexI (a.drop a.length) b = false := by
  rw [List.drop_length]; cases b <;> rfl
set_option maxHeartbeats 2000000 in
set_option maxRecDepth 100000 in
theorem l4LessI_any (u v : Value) (a b : List Int) (w : World) (hu : Ints w u a) (hv : Ints w v b) (hl : a.length = b.length) (ha : a.length ≤ 1048576) :
    Calls Try.prog 90 #[u, v] w fun e w' => e = .returned (.bool (lexI a b)) ∧ Below w.heap.size w w' := by
  obtain ⟨A1, c1, rfl, hc1⟩ := hu.form
  obtain ⟨A2, c2, rfl, hc2⟩ := hv.form
  have HC1 := Lib.hid hc1
  have HC2 := Lib.hid hc2
  have HL := Lib.hid hl
  clear hu hv hc1 hc2 hl
  go_enter Try.func90, Try.ntmps90
  go_wp2_with fail
  go_loopg [5] a.length (fun g i wr => ∃ k : Nat, k + g = a.length ∧ i = .int .i64 (k : Int) ∧ Hid (lexI (a.drop k) (b.drop k) = lexI a b) ∧ Below w.heap.size w wr)
  case atStart => exact ⟨0, by omega, rfl, by show _ = _; rw [List.drop_zero, List.drop_zero], Below.refl _ _⟩
  case round =>
    obtain ⟨k, hkg, rfl, hr, hB⟩ := hrel
    cases gk with
    | zero =>
      obtain rfl : k = a.length := by omega
      have HV : Hid (lexI a b = false) := by show _ = _; rw [← hr.out, lexI_end]
      go_wp2_with fail
      go_ret
      rw [HV.out]
      exact ⟨rfl, hB⟩
    | succ gg =>
      have hlt : k < a.length := by omega
      have hlt' : (k : Int) < (a.length : Int) := by omega
      have hlb' : (k : Int) < (b.length : Int) := by rw [← HL.out]; omega
      obtain ⟨x, hx⟩ : ∃ x, a[k]? = some x := ⟨_, List.getElem?_eq_getElem hlt⟩
      obtain ⟨y, hy⟩ : ∃ y, b[k]? = some y := ⟨_, List.getElem?_eq_getElem (by have := HL.out; omega)⟩
      obtain ⟨g1, o1, rfl, q1⟩ := HC1.out k _ hx
      obtain ⟨g2, o2, rfl, q2⟩ := HC2.out k _ hy
      have r1 := nearv.cell_keep q1 hB
      have r2 := nearv.cell_keep q2 hB
      have HB := Lib.hid (fun nq => below_drewN hB nq)
      have HB2 := Lib.hid (fun n1 n2 => below_drewN (below_drewN hB n1) n2)
      by_cases hxy : x = y
      · subst hxy
        have HK : Hid (lexI (a.drop (k + 1)) (b.drop (k + 1)) = lexI a b) := (lexI_same hx hy).symm.trans hr.out
        have d0 : (x != x) = false := by simp
        clear hx hy q1 q2 hB
        go_wp2_with fail
        go_quiet (fail)
        go_wp2_with fail
        go_roundg gg
        case measure => omega
        case rel => exact ⟨k + 1, by omega, by go_num, HK, HB.out _⟩
      · have HV : Hid (decide (x < y) = lexI a b) := (lexI_diff hx hy hxy).symm.trans hr.out
        have d0 : (x != y) = true := by simpa using hxy
        clear hx hy q1 q2 hB
        go_wp2_with fail
        go_quiet (fail)
        go_wp2_with fail
        go_quiet (fail)
        go_wp2_with fail
        go_ret
        exact ⟨ret_bool HV.out, HB2.out _ _⟩
theorem full_len {n : Nat} {l : List Ed} {r c : Nat} (hn : n ≤ 8) (h : spN n l r c < 2 ^ n) : fullB n l r c = decide (¬ (nw (bitB (spN n l r c)) n).length < n) := by
  have h8 := Nat.lt_of_lt_of_le h (pow_le hn)
  have h1 := ones_full ⟨n, by omega⟩ ⟨spN n l r c, h8⟩ h
  have h2 := ones_topN hn h
  rw [nd_bits hn h, nd_len]
  unfold fullB
  simp only at h1
  rw [Bool.eq_iff_iff, beq_iff_eq, decide_eq_true_iff, ← h1]
  omega
theorem lsp_len (s : Int) (l : List Ed) (r : Int) : (inG (NumOk s l r) (ndN (lspN s.toNat l r.toNat))).length ≤ 1048576 := inG_len fun _ => by
  unfold ndN
  have := nw_len (bitB (lspN s.toNat l r.toNat)) 8
  omega
end Go.Proofs.Ytgfjdkjoeaghoaa.ups

/- The contracts of the model's l8Far, IsFarSet, l8Largest and LargestFarSet. -/
namespace Go.Proofs.Ytgfjdkjoeaghoaa.ups
open Go.RowKit P2 words edges ints good adjs fns sets rets covs bags balls bitsI func grid dists
set_option linter.unusedVariables false

theorem gridU_cell {w : World} {B i n c : Nat} {A : Option Addr} {us : List Value} {u : Value} (h : w.ownsRow B 37 1 (.slice A n c) n us) (hu : us[i]? = some u) :
    ∃ g, A = some ⟨g, 0, none⟩ ∧ w.cell? ⟨g, i, none⟩ = some u := by
  have hi := (List.getElem?_eq_some_iff.1 hu).1
  have hl := h.1
  rcases h.2 with ⟨hf, _⟩ | ⟨g, cap, cur, hf, _⟩
  · have := congrArg (fun v => match v with | .slice _ n _ => n | _ => 0) hf
    simp at this
    omega
  · obtain ⟨rfl, rfl⟩ : A = some ⟨g, 0, none⟩ ∧ c = cap := by simpa using hf
    have := h.cellAt i (by omega)
    rw [hu] at this
    exact ⟨g, rfl, this⟩
/-- a number of the table of distances -/
theorem distU_cell {w : World} {B n x y c : Nat} {A : Option Addr} {us : List Value} {l : List Ed} (h : OwnG w B (.slice A (distG n l).length c) us (distG n l)) (hx : x < n) (hy : y < n) :
    ∃ g gr gx c5, A = some ⟨g, 0, none⟩ ∧ w.cell? ⟨g, x, none⟩ = some (.slice (some ⟨gr, gx, none⟩) n c5) ∧ w.cell? ⟨gr, gx + y, none⟩ = some (.int .i64 (fn (dist n (J2 l) x) y)) := by
  obtain ⟨u5, hu5, o5⟩ := h.row (show (distG n l)[x]? = some (dist n (J2 l) x) from by unfold distG distTo; simp [hx]; rfl)
  obtain ⟨A5, c5, rfl⟩ := own_form o5
  obtain ⟨g, e, f5⟩ := gridU_cell h.1 hu5
  have hd := dist_len (J2 l) hx
  have hi : Ints w (.slice A5 (dist n (J2 l) x).length c5) (dist n (J2 l) x) := Reads.of_own o5
  obtain ⟨_, _, hf, hcc⟩ := hi.form
  cases hf
  obtain ⟨g6, o6, rfl, q6⟩ := hcc y _ (fn_get (by omega))
  rw [hd] at f5
  exact ⟨g, g6, o6, c5, e, f5, q6⟩
/-- no two of a list are so near, the first one among the first i -/
def FarL (n : Nat) (l : List Ed) (r : Nat) (xs : List Int) (i : Nat) : Prop := ∀ (a b : Nat) (x y : Int), a < i → b < a → xs[a]? = some x → xs[b]? = some y → inB (fn (dist n (J2 l) x.toNat) y.toNat) 0 (r : Int) = false
def FarI (n : Nat) (l : List Ed) (r : Nat) (xs : List Int) (i j : Nat) : Prop := FarL n l r xs i ∧ ∀ (b : Nat) (x y : Int), b < j → xs[i]? = some x → xs[b]? = some y → inB (fn (dist n (J2 l) x.toNat) y.toNat) 0 (r : Int) = false
theorem FarL.inner {n : Nat} {l : List Ed} {r : Nat} {xs : List Int} {i : Nat} (h : FarL n l r xs i) : FarI n l r xs i 0 := ⟨h, fun b x y hb => by omega⟩
theorem FarI.next {n : Nat} {l : List Ed} {r : Nat} {xs : List Int} {i j x y : Nat} (h : FarI n l r xs i j) (hx : xs[i]? = some (x : Int)) (hy : xs[j]? = some (y : Int)) (hi : inB (fn (dist n (J2 l) x) y) 0 (r : Int) = false) : FarI n l r xs i (j + 1) :=
  ⟨h.1, fun b x' y' hb h1 h2 => by
    by_cases e : b = j
    · subst e; rw [hx] at h1; rw [hy] at h2; cases h1; cases h2; rw [Int.toNat_natCast, Int.toNat_natCast]; exact hi
    · exact h.2 b x' y' (by omega) h1 h2⟩
theorem FarI.all {n : Nat} {l : List Ed} {r : Nat} {xs : List Int} {i : Nat} (h : FarI n l r xs i i) : FarL n l r xs (i + 1) := fun a b x y h1 h2 h3 h4 => by
  by_cases e : a = i
  · subst e; exact h.2 b x y h2 h3 h4
  · exact h.1 a b x y (by omega) h2 h3 h4
theorem inB_wk {l : List Ed} {n r x y : Nat} (hx : x < n) (hy : y < n) : inB (fn (dist n (J2 l) x) y) 0 (r : Int) = false ↔ ¬ Wk l n r x y := by
  unfold inB
  rw [decide_eq_false_iff_not, wk_dist hx hy]
theorem farL_iff {n : Nat} {l : List Ed} {r c : Nat} : FarL n l r (nw (bitB c) n) (nw (bitB c) n).length ↔ FarP l n r c := by
  have hasc := nw_asc (bitB c) n
  constructor
  · intro h x y hx hyx hcx hcy
    obtain ⟨a, ha⟩ := List.getElem?_of_mem (mem_nw.2 ⟨x, hx, hcx, rfl⟩ : ((x : Nat) : Int) ∈ nw (bitB c) n)
    obtain ⟨b, hb⟩ := List.getElem?_of_mem (mem_nw.2 ⟨y, by omega, hcy, rfl⟩ : ((y : Nat) : Int) ∈ nw (bitB c) n)
    have hba : b < a := by
      rcases Nat.lt_trichotomy b a with e | e | e
      · exact e
      · subst e; rw [ha] at hb; have := Option.some.inj hb; omega
      · have := hasc.at_ e ha hb; omega
    have := h a b _ _ (List.getElem?_eq_some_iff.1 ha).1 hba ha hb
    rw [Int.toNat_natCast, Int.toNat_natCast] at this
    exact (inB_wk hx (by omega)).1 this
  · intro h a b x y h1 h2 h3 h4
    obtain ⟨i, hi, hci, rfl⟩ := mem_nw.1 (List.mem_of_getElem? h3)
    obtain ⟨j, hj, hcj, rfl⟩ := mem_nw.1 (List.mem_of_getElem? h4)
    have := hasc.at_ h2 h4 h3
    rw [Int.toNat_natCast, Int.toNat_natCast]
    exact (inB_wk hi hj).2 (h i j hi (by omega) hci hcj)
set_option maxHeartbeats 4000000 in
set_option maxRecDepth 100000 in
theorem l8Far_any (n kk cd B c : Nat) (Ad : Option Addr) (us : List Value) (u : Value) (l : List Ed) (w : World) (hd : OwnG w B (.slice Ad (distG n l).length cd) us (distG n l)) (hu : Ints w u (nw (bitB c) n)) (hg : P2.Good (n : Int) l) (hn : n ≤ 8) (hc : c < 2 ^ n) (hk1 : 1 ≤ kk) (hk8 : kk ≤ 8) :
    Calls Try.prog 89 #[.slice Ad (distG n l).length cd, u, .int .i64 (kk : Int)] w fun e w' => e = .returned (.bool (farB l n (2 * kk - 2) c)) ∧ Below w.heap.size w w' := by
  obtain ⟨A2, c2, rfl, hc2⟩ := hu.form
  have HC2 := Lib.hid hc2
  have hdl : (distG n l).length = n := by unfold distG distTo; simp
  obtain ⟨R, hR⟩ : ∃ R : Nat, R = 2 * kk - 2 := ⟨_, rfl⟩
  have hRi : (2 : Int) * (kk : Int) - 2 = (R : Int) := by omega
  rw [← hR]
  have HDC := Lib.hid (fun (x y : Nat) (hx : x < n) (hy : y < n) (W : World) (hW : Below w.heap.size w W) => distU_cell (hd.below hW) hx hy)
  have HFI : Hid (farB l n R c = true ↔ FarL n l R (nw (bitB c) n) (nw (bitB c) n).length) := by
    show _ ↔ _
    rw [far_iff hg hn hc, farL_iff]
  have HF0 : Hid (FarL n l R (nw (bitB c) n) 0) := fun a b x y h => by omega
  have HMM := Lib.hid (fun (x : Int) => (mem_nw (p := bitB c) (k := n) (x := x)))
  have hnl := nw_len (bitB c) n
  clear hd hu hc2 hR hc
  rw [hdl]
  clear hdl
  generalize nw (bitB c) n = xs at *
  go_enter Try.func89, Try.ntmps89
  go_wp2_with fail
  go_loopg [7] xs.length (fun g iv wr => ∃ i : Nat, i + g = xs.length ∧ iv = .int .i64 (i : Int) ∧ Hid (FarL n l R xs i) ∧ Below w.heap.size w wr)
  case atStart => exact ⟨0, by omega, rfl, HF0, Below.refl _ _⟩
  case round =>
    clear HF0
    obtain ⟨i, hig, rfl, hfl, hB⟩ := hrel
    have HB := Lib.hid hB
    cases gk with
    | zero =>
      obtain rfl : i = xs.length := by omega
      have HV : Hid (farB l n R c = true) := HFI.out.2 hfl.out
      clear hB
      go_wp2_with fail
      go_ret
      rw [HV.out]
      exact ⟨rfl, HB.out⟩
    | succ g2 =>
      have hlt : i < xs.length := by omega
      have hlt' : (i : Int) < (xs.length : Int) := by omega
      obtain ⟨x', hx'⟩ : ∃ x, xs[i]? = some x := ⟨_, List.getElem?_eq_getElem hlt⟩
      obtain ⟨x, hxn, -, rfl⟩ := (HMM.out x').1 (List.mem_of_getElem? hx')
      obtain ⟨g5, o5, rfl, c5⟩ := HC2.out i _ hx'
      have HX := Lib.hid hx'
      have HC5 := Lib.hid c5
      have HI := Lib.hid hfl.out.inner
      have hxn' : (x : Int) < (n : Int) := by omega
      clear hx' c5 hB
      go_wp2_with fail
      obtain ⟨wo, hwo⟩ : ∃ wo, wo = wr := ⟨_, rfl⟩
      subst hwo
      go_loopg [8] i (fun g jv wr => ∃ j : Nat, j + g = i ∧ jv = .int .i64 (j : Int) ∧ Hid (FarI n l R xs i j) ∧ Below w.heap.size w wr)
      case atStart => exact ⟨0, by omega, rfl, HI, HB.out⟩
      case round =>
        clear HI HB
        obtain ⟨j, hjg, rfl, hfi, hB⟩ := hrel
        have HB := Lib.hid hB
        cases gk with
        | zero =>
          obtain rfl : j = i := by omega
          have HN := Lib.hid hfi.out.all
          clear hB
          go_wp2_with fail
          go_roundg g2
          case measure => omega
          case rel => exact ⟨j + 1, by omega, by go_num, HN, HB.out⟩
        | succ g3 =>
          have hji : j < i := by omega
          have hji' : (j : Int) < (i : Int) := by omega
          have hjl' : (j : Int) < (xs.length : Int) := by omega
          obtain ⟨y', hy'⟩ : ∃ y, xs[j]? = some y := ⟨_, List.getElem?_eq_getElem (by omega)⟩
          obtain ⟨y, hyn, -, rfl⟩ := (HMM.out y').1 (List.mem_of_getElem? hy')
          obtain ⟨_, _, hf, c6⟩ := HC2.out j _ hy'
          cases hf
          have hyn' : (y : Int) < (n : Int) := by omega
          have q5 := nearv.cell_keep HC5.out hB
          have q6 := nearv.cell_keep c6 hB
          obtain ⟨g8, gr, gx, c8, rfl, q7, q8⟩ := HDC.out x y hxn hyn wr hB
          have HIN := Lib.hid (fun (W : World) => l1In_any (fn (dist n (J2 l) x) y) 0 (R : Int) W)
          have HBD := Lib.hid (fun (m : Nat) => below_drewN hB m)
          cases hib : inB (fn (dist n (J2 l) x) y) 0 (R : Int) with
          | true =>
            have HV : Hid (farB l n R c = false) := by
              cases hfb : farB l n R c with
              | false => exact rfl
              | true =>
                have := HFI.out.1 hfb i j _ _ hlt hji HX.out hy'
                rw [Int.toNat_natCast, Int.toNat_natCast, hib] at this
                cases this
            rw [hib] at HIN
            clear hib hy' c6 hB
            generalize fn (dist n (J2 l) x) y = D at *
            go_wp2_with fail
            go_quiet ((go_at_call 63; exact quiet_left (HIN.out _)))
            go_wp2_with fail
            go_ret
            rw [HV.out]
            exact ⟨rfl, HBD.out _⟩
          | false =>
            have HN := Lib.hid (hfi.out.next HX.out hy' hib)
            rw [hib] at HIN
            clear hib hy' c6 hB
            generalize fn (dist n (J2 l) x) y = D at *
            go_wp2_with fail
            go_quiet ((go_at_call 63; exact quiet_left (HIN.out _)))
            go_wp2_with fail
            go_roundg g3
            case measure => omega
            case rel => exact ⟨j + 1, by omega, by go_num, HN, HBD.out _⟩
set_option maxHeartbeats 8000000 in
set_option maxRecDepth 100000 in
theorem l8Largest_any (n kk : Nat) (v : Value) (l : List Ed) (w : World) (h : Edges w v l) (hl : l.length ≤ 1048576) (hg : P2.Good (n : Int) l) (hn : n ≤ 8) (hk1 : 1 ≤ kk) (hk8 : kk ≤ 8) :
    Calls Try.prog 58 #[.agg #[.int .i64 (n : Int), v], .int .i64 (kk : Int)] w (RowI w (ndN (lfN l n kk))) := by
  obtain ⟨A, c, rfl, -⟩ := h.form
  have b0 : Below w.heap.size w ((w.alloc (.cells #[.int .i64 (n : Int), .slice A l.length c] 30)).alloc (.cells #[] 3)) := ((Below.refl _ _).alloc (Nat.le_refl _) _).alloc (by simp) _
  have g0 := (Blk.new w 30 #[.int .i64 (n : Int), .slice A l.length c]).alloc (.cells #[] 3)
  obtain ⟨p0, p1, -, -⟩ := g0.two
  have o0 := own_new0 (w.alloc (.cells #[.int .i64 (n : Int), .slice A l.length c] 30)) 3 1
  rw [World.size_alloc] at o0
  have HDI := Lib.hid (l2Dist_any n (.slice A l.length c) l _ (h.below b0) hl hn)
  have HB0 := Lib.hid b0
  have HG0 := Lib.hid g0
  have hz0 : nw (bitB 0) n = [] := by rw [nd_bits hn (Nat.pow_pos (by decide))]; decide
  have HO0 : Hid (((w.alloc (.cells #[.int .i64 (n : Int), .slice A l.length c] 30)).alloc (.cells #[] 3)).ownsRow w.heap.size 3 1 (.slice (some ⟨w.heap.size + 1, 0, none⟩) 0 0) (nw (bitB 0) n).length (cellsI (nw (bitB 0) n))) := by
    show World.ownsRow _ _ _ _ _ _ _
    rw [hz0]
    exact own_base o0 (by omega)
  have HM0 : Hid (MaxC (farB l n (2 * kk - 2)) rkMax n 0 0) := ⟨Nat.pow_pos (by decide), far_zero l n _, fun c hc => by omega⟩
  have HPW := Lib.hid (pow_le hn)
  have HBE := Lib.hid (fun (b : Nat) (hb : MaxC (farB l n (2 * kk - 2)) rkMax n (2 ^ n) b) => (bestC_is hn rkMax_inj hb : lfN l n kk = b))
  have HTK : Hid (∀ k bst, MaxC (farB l n (2 * kk - 2)) rkMax n k bst → k < 2 ^ n → farB l n (2 * kk - 2) k = true → rkMax bst < rkMax k → MaxC (farB l n (2 * kk - 2)) rkMax n (k + 1) k) := fun k bst h1 h2 h3 h4 => maxC_take h1 h2 h3 h4
  have HND : Hid (∀ c, c < 2 ^ n → nw (bitB c) n = ndN c) := fun c hc => nd_bits hn hc
  have HFA := Lib.hid (fun (k cd B : Nat) (Ad : Option Addr) (us : List Value) (hk : k < 2 ^ n) (W : World) (u : Value) (hd : OwnG W B (.slice Ad (distG n l).length cd) us (distG n l)) (hu : Ints W u (nw (bitB k) n)) => l8Far_any n kk cd B k Ad us u l W hd hu hg hn hk hk1 hk8)
  have HBT := Lib.hid (fun (bst k : Nat) (hb : MaxC (farB l n (2 * kk - 2)) rkMax n k bst) => hb.1)
  clear h b0 g0 o0 hz0 hg
  have hsh : IntKind.i64.wrap ((2 : Int) ^ n) = ((2 ^ n : Nat) : Int) := by
    have hpn := pow_le hn
    rw [show ((2 : Int) ^ n) = ((2 ^ n : Nat) : Int) from by simp]
    generalize 2 ^ n = z at *
    exact Go.IntWalk.i64_in _ (by omega)
  have hN256 := HPW.out
  generalize hNN : 2 ^ n = N at *
  have HNN := Lib.hid hNN
  clear hNN
  go_enter Try.func58, Try.ntmps58
  go_wp2_with fail
  refine HDI.out.mono ?_
  rintro e w2 ⟨A7, c7, us, rfl, o7, b2⟩
  have HE2 := Lib.hid (btrans HB0.out b2)
  have HG2 := Lib.hid (HG0.out.below b2 HG0.out.lt)
  have HO2 := Lib.hid (own_below HO0.out b2)
  have HOG := Lib.hid o7
  clear p0 p1 b2 o7 HDI HB0 HG0 HO0
  generalize hDG : distG n l = DG at *
  clear hDG
  go_wp2_with fail
  go_loopg [5, 7] N (fun g bv cv wr => ∃ (k bst : Nat) (ow : Value), ow = bv ∧ k + g = N ∧ cv = .int .i64 (k : Int) ∧ Hid (MaxC (farB l n (2 * kk - 2)) rkMax n k bst) ∧ wr.ownsRow w.heap.size 3 1 ow (nw (bitB bst) n).length (cellsI (nw (bitB bst) n)) ∧ Blk wr w.heap.size 30 #[.int .i64 (n : Int), .slice A l.length c] ∧ Below w2.heap.size w2 wr)
  case atStart => exact ⟨0, 0, _, rfl, by omega, rfl, HM0, HO2.out, HG2.out, Below.refl _ _⟩
  case round =>
    clear HM0 HO2 HG2
    obtain ⟨k, bst, ow, rfl, hkg, rfl, hmx, hrow, hgb, hB⟩ := hrel
    obtain ⟨A4, c4, rfl⟩ := own_form hrow
    obtain ⟨p0, p1, -, -⟩ := hgb.two
    have HR := Lib.hid hrow
    have HG := Lib.hid hgb
    have HB := Lib.hid hB
    have hbl := nw_len (bitB bst) n
    have HBN := Lib.hid (HBT.out bst k hmx.out)
    have HB2 := Lib.hid (HND.out bst HBN.out)
    have HSZ := Lib.hid HE2.out.size
    clear hrow hgb hB
    cases gk with
    | zero =>
      obtain rfl : k = N := by omega
      have HV : Hid (lfN l n kk = bst) := HBE.out bst hmx.out
      go_wp2_with fail
      go_ret
      have HR2 := HR.out
      rw [HB2.out] at HR2 ⊢
      rw [HV.out]
      exact ⟨_, _, rfl, HR2, btrans HE2.out HB.out⟩
    | succ g2 =>
      have hkN : k < N := by omega
      have hkN' : (k : Int) < (N : Int) := by omega
      have HBI := Lib.hid (l2Bits_any n k wr hn (by omega))
      have HNK := Lib.hid (HND.out k hkN)
      have hkl := nw_len (bitB k) n
      go_wp2_with fail
      refine HBI.out.mono ?_
      rintro e w3 ⟨A5, c5, rfl, o5, b5⟩
      have HB3 := Lib.hid (HB.out.trans (b5.mono HB.out.size))
      have HG3 := Lib.hid (HG.out.below b5 HG.out.lt)
      have HR3 := Lib.hid (own_below HR.out b5)
      have HO5 := Lib.hid (own_base (B' := w.heap.size) o5 (Nat.le_trans HSZ.out HB.out.size))
      have HS3 := Lib.hid (HFA.out k c7 _ A7 us hkN w3 (.slice A5 (nw (bitB k) n).length c5) (HOG.out.below HB3.out) (Reads.of_own o5))
      have h12 : Hid ((nw (bitB k) n).length = onesN k ∧ (nw (bitB bst) n).length = onesN bst) := ⟨by rw [HNK.out]; rfl, by rw [HB2.out]; rfl⟩
      have hbm := better_max (a := k) (b := bst) (by omega) (by have := HBN.out; omega)
      clear p0 p1 b5 o5
      obtain ⟨p0, p1, -, -⟩ := HG3.out.two
      cases hfb : farB l n (2 * kk - 2) k with
      | false =>
        have HN := Lib.hid (maxC_skip hmx.out hfb)
        rw [hfb] at HS3
        clear hfb hbm
        go_wp2_with fail
        refine HS3.out.mono ?_
        rintro e w4 ⟨rfl, b6⟩
        have HB4 := Lib.hid (HB3.out.trans (b6.mono HB3.out.size))
        have HG4 := Lib.hid (HG3.out.below b6 HG3.out.lt)
        have HR4 := Lib.hid (own_below HR3.out b6)
        clear b6 p0 p1
        go_wp2_with fail
        go_roundg g2
        case measure => omega
        case rel => exact ⟨k + 1, bst, _, rfl, by omega, by go_num, HN, HR4.out, HG4.out, HB4.out⟩
      | true =>
        have HTT := Lib.hid (fun (h : rkMax bst < rkMax k) => HTK.out k bst hmx.out hkN hfb h)
        have HLL := Lib.hid (fun (h : ¬ rkMax bst < rkMax k) => maxC_less hmx.out h)
        rw [hfb] at HS3
        clear hfb
        go_wp2_with fail
        refine HS3.out.mono ?_
        rintro e w4 ⟨rfl, b6⟩
        have HB4 := Lib.hid (HB3.out.trans (b6.mono HB3.out.size))
        have HG4 := Lib.hid (HG3.out.below b6 HG3.out.lt)
        have HR4 := Lib.hid (own_below HR3.out b6)
        have HO4 := Lib.hid (own_below HO5.out b6)
        clear b6 p0 p1
        by_cases c1 : onesN bst < onesN k
        · have c2 : (nw (bitB bst) n).length < (nw (bitB k) n).length := by rw [h12.out.1, h12.out.2]; exact c1
          have c3 : ((nw (bitB bst) n).length : Int) < ((nw (bitB k) n).length : Int) := by omega
          have HN := Lib.hid (HTT.out (by rw [decide_eq_true c1, Bool.true_or] at hbm; exact of_decide_eq_true hbm.symm))
          clear hbm c1
          go_wp2_with fail
          go_roundg g2
          case measure => omega
          case rel => exact ⟨k + 1, k, _, rfl, by omega, by go_num, HN, HO4.out, HG4.out, HB4.out⟩
        · have c2 : ¬ (nw (bitB bst) n).length < (nw (bitB k) n).length := by rw [h12.out.1, h12.out.2]; exact c1
          have c3 : ¬ ((nw (bitB bst) n).length : Int) < ((nw (bitB k) n).length : Int) := by omega
          rw [decide_eq_false c1, Bool.false_or] at hbm
          by_cases c4 : onesN k = onesN bst
          · have c5 : Hid ((nw (bitB k) n).length = (nw (bitB bst) n).length) := by show _ = _; rw [h12.out.1, h12.out.2]; exact c4
            have c6 : (((nw (bitB k) n).length : Int) == ((nw (bitB bst) n).length : Int)) = true := by rw [c5.out]; simp
            have c7 : ((nw (bitB k) n).length == (nw (bitB bst) n).length) = true := by rw [c5.out]; simp
            rw [decide_eq_true c4, Bool.true_and] at hbm
            have HLS := Lib.hid (l4LessI_any _ _ (nw (bitB k) n) (nw (bitB bst) n) w4 (show Ints _ _ _ from Reads.of_own HO4.out) (show Ints _ _ _ from Reads.of_own HR4.out) c5.out (by omega))
            rw [HNK.out, HB2.out, hbm] at HLS
            rw [← HNK.out, ← HB2.out] at HLS
            clear c1 c4 hbm
            by_cases hlx : rkMax bst < rkMax k
            · rw [decide_eq_true hlx] at HLS
              have HN := Lib.hid (HTT.out hlx)
              clear hlx
              go_wp2_with fail
              refine HLS.out.mono ?_
              rintro e w5 ⟨rfl, b7⟩
              have HB5 := Lib.hid (HB4.out.trans (b7.mono HB4.out.size))
              have HG5 := Lib.hid (HG4.out.below b7 HG4.out.lt)
              have HO7 := Lib.hid (own_below HO4.out b7)
              clear b7
              go_wp2_with fail
              go_roundg g2
              case measure => omega
              case rel => exact ⟨k + 1, k, _, rfl, by omega, by go_num, HN, HO7.out, HG5.out, HB5.out⟩
            · rw [decide_eq_false hlx] at HLS
              have HN := Lib.hid (HLL.out hlx)
              clear hlx
              go_wp2_with fail
              refine HLS.out.mono ?_
              rintro e w5 ⟨rfl, b7⟩
              have HB5 := Lib.hid (HB4.out.trans (b7.mono HB4.out.size))
              have HG5 := Lib.hid (HG4.out.below b7 HG4.out.lt)
              have HR7 := Lib.hid (own_below HR4.out b7)
              clear b7
              go_wp2_with fail
              go_roundg g2
              case measure => omega
              case rel => exact ⟨k + 1, bst, _, rfl, by omega, by go_num, HN, HR7.out, HG5.out, HB5.out⟩
          · have c5 : (nw (bitB k) n).length ≠ (nw (bitB bst) n).length := by rw [h12.out.1, h12.out.2]; exact c4
            have c6 : (((nw (bitB k) n).length : Int) == ((nw (bitB bst) n).length : Int)) = false := by rw [beq_eq_false_iff_ne]; omega
            have c7 : ((nw (bitB k) n).length == (nw (bitB bst) n).length) = false := by rw [beq_eq_false_iff_ne]; exact c5
            rw [decide_eq_false c4, Bool.false_and] at hbm
            have HN := Lib.hid (HLL.out (of_decide_eq_false hbm.symm))
            clear c1 c4 hbm
            go_wp2_with fail
            go_roundg g2
            case measure => omega
            case rel => exact ⟨k + 1, bst, _, rfl, by omega, by go_num, HN, HR4.out, HG4.out, HB4.out⟩
set_option maxHeartbeats 1000000 in
set_option maxRecDepth 100000 in
theorem specLf_any (s k : Int) (v : Value) (l : List Ed) (w : World) (h : Edges w v l) (hl : l.length ≤ 1048576) (hs1 : -9223372036854775808 ≤ s) (hs2 : s ≤ 9223372036854775807) :
    Calls Try.prog 24 #[.agg #[.int .i64 s, v], .int .i64 k] w (RetI w (NumOk s l k) (ndN (lfN l s.toNat k.toNat))) := by
  obtain ⟨A, c, rfl, -⟩ := h.form
  have H := Lib.hid h
  have b0 : Below w.heap.size w (w.alloc (.cells #[.int .i64 s, .slice A l.length c] 30)) := (Below.refl _ _).alloc (Nat.le_refl _) _
  have g0 := Blk.new w 30 #[.int .i64 s, .slice A l.length c]
  obtain ⟨p0, p1, -, -⟩ := g0.two
  have HGD := Lib.hid (l2Good_any s _ l _ (h.below b0) hl hs1 hs2)
  have HB0 := Lib.hid b0
  have HG0 := Lib.hid g0
  clear h b0 g0
  by_cases hgd : P2.Good s l
  · rw [goodB_yes hgd] at HGD
    have h0 := hgd.1
    have h8 := hgd.2.1
    by_cases hrr : 1 ≤ k ∧ k ≤ 8
    · have HLN := Lib.hid (fun (W : World) => l8Number_any k W)
      rw [inB_num hrr] at HLN
      have HOK : Hid (NumOk s l k) := ⟨hgd, hrr⟩
      obtain ⟨n, rfl⟩ : ∃ n : Nat, s = (n : Int) := ⟨s.toNat, by omega⟩
      have hn : n ≤ 8 := by omega
      obtain ⟨kk, rfl⟩ : ∃ kk : Nat, k = (kk : Int) := ⟨k.toNat, by omega⟩
      have hk1 : 1 ≤ kk := by omega
      have hk8 : kk ≤ 8 := by omega
      rw [Int.toNat_natCast, Int.toNat_natCast]
      clear hgd hrr
      go_enter Try.func24, Try.ntmps24
      go_wp2_with fail
      refine HGD.out.mono ?_
      rintro e w1 ⟨rfl, b1⟩
      have HE1 := Lib.hid (btrans HB0.out b1)
      have HG1 := Lib.hid (HG0.out.below b1 HG0.out.lt)
      clear p0 p1 b1 HGD HB0 HG0
      obtain ⟨p0, p1, -, -⟩ := HG1.out.two
      go_wp2_with fail
      refine (HLN.out _).mono ?_
      rintro e w' ⟨rfl, rfl⟩
      have HLF := Lib.hid (l8Largest_any n kk (.slice A l.length c) l w1 (H.out.below HE1.out) hl HOK.out.1 hn hk1 hk8)
      go_wp2_with fail
      refine HLF.out.mono ?_
      rintro e w4 ⟨A4, c4, rfl, o4, b4⟩
      go_wp2_with fail
      go_ret2
      exact RetI.yes HOK.out (own_base o4 HE1.out.size) (btrans HE1.out b4)
    · have HLN := Lib.hid (fun (W : World) => l8Number_any k W)
      rw [inB_non hrr] at HLN
      have HNO : Hid (¬ NumOk s l k) := fun h => hrr h.2
      clear hgd hrr
      go_enter Try.func24, Try.ntmps24
      go_wp2_with fail
      refine HGD.out.mono ?_
      rintro e w1 ⟨rfl, b1⟩
      have HE1 := Lib.hid (btrans HB0.out b1)
      clear p0 p1 b1 HGD HB0 HG0
      go_wp2_with fail
      refine (HLN.out _).mono ?_
      rintro e w' ⟨rfl, rfl⟩
      go_wp2_with fail
      go_ret2
      exact RetI.no HNO.out (own_base (own_new0 w1 3 1) HE1.out.size) (HE1.out.alloc HE1.out.size _)
  · rw [goodB_no hgd] at HGD
    have HNO : Hid (¬ NumOk s l k) := fun h => hgd h.1
    clear hgd
    go_enter Try.func24, Try.ntmps24
    go_wp2_with fail
    refine HGD.out.mono ?_
    rintro e w1 ⟨rfl, b1⟩
    have HE1 := Lib.hid (btrans HB0.out b1)
    clear p0 p1 b1
    go_wp2_with fail
    go_ret2
    exact RetI.no HNO.out (own_base (own_new0 w1 3 1) HE1.out.size) (HE1.out.alloc HE1.out.size _)
theorem lf_len (s : Int) (l : List Ed) (k : Int) : (inG (NumOk s l k) (ndN (lfN l s.toNat k.toNat))).length ≤ 1048576 := inG_len fun _ => by
  unfold ndN
  have := nw_len (bitB (lfN l s.toNat k.toNat)) 8
  omega
end Go.Proofs.Ytgfjdkjoeaghoaa.ups

/- The contracts of the model's l1Least and l1Most. -/
namespace Go.Proofs.Ytgfjdkjoeaghoaa.minmax
open Go.RowKit P2 words

theorem l1Least_any (a b : Int) (w : World) : Calls Try.prog 62 #[.int .i64 a, .int .i64 b] w fun e w' => e = .returned (.int .i64 (min a b)) ∧ w = w' := by
  by_cases h : a < b
  · have hm : Hid (min a b = a) := Int.min_eq_left (by omega)
    go_enter Try.func62, Try.ntmps62
    go_wp2_with fail
    go_ret
    exact ⟨ret_int hm.out.symm, rfl⟩
  · have hm : Hid (min a b = b) := Int.min_eq_right (by omega)
    go_enter Try.func62, Try.ntmps62
    go_wp2_with fail
    go_ret
    exact ⟨ret_int hm.out.symm, rfl⟩
theorem l1Most_any (a b : Int) (w : World) : Calls Try.prog 61 #[.int .i64 a, .int .i64 b] w fun e w' => e = .returned (.int .i64 (max a b)) ∧ w = w' := by
  by_cases h : b < a
  · have hm : Hid (max a b = a) := Int.max_eq_left (by omega)
    go_enter Try.func61, Try.ntmps61
    go_wp2_with fail
    go_ret
    exact ⟨ret_int hm.out.symm, rfl⟩
  · have hm : Hid (max a b = b) := Int.max_eq_right (by omega)
    go_enter Try.func61, Try.ntmps61
    go_wp2_with fail
    go_ret
    exact ⟨ret_int hm.out.symm, rfl⟩
end Go.Proofs.Ytgfjdkjoeaghoaa.minmax

/- FarBound: the contracts of the program's function and of the model's. -/
namespace Go.Proofs.Ytgfjdkjoeaghoaa.ups
open Go.RowKit P2 words edges ints good adjs fns sets rets covs bags bitsI func
set_option linter.unusedVariables false

noncomputable def fbK (l : List Ed) (n : Nat) : Nat → Int
  | 0 => 0
  | k + 1 => max (fbK l n k) (min (((k + 1 : Nat) : Int) + 1) (onesN (lfN l n (k + 1)) : Int))
theorem fbK_le (l : List Ed) (n : Nat) : ∀ k, 0 ≤ fbK l n k ∧ fbK l n k ≤ 8
  | 0 => by unfold fbK; omega
  | k + 1 => by
    have h1 := fbK_le l n k
    have h2 := ones_le (lfN l n (k + 1))
    unfold fbK
    omega
noncomputable def fbV (s : Int) (l : List Ed) : Int := szG (P2.Good s l) (fbK l s.toNat 8)
set_option maxHeartbeats 2000000 in
set_option maxRecDepth 100000 in
theorem implFb_any (s : Int) (v : Value) (l : List Ed) (w : World) (h : Edges w v l) (hl : l.length ≤ 1048576) :
    Calls Try.prog 27 #[.agg #[.int .i64 s, v]] w fun e w' => e = .returned (.tuple #[.int .i64 (fbV s l), .bool (goodB s l)]) ∧ Below w.heap.size w w' := by
  obtain ⟨A, c, rfl, -⟩ := h.form
  have H := Lib.hid h
  have b0 : Below w.heap.size w (w.alloc (.cells #[.int .i64 s, .slice A l.length c] 30)) := (Below.refl _ _).alloc (Nat.le_refl _) _
  have g0 := Blk.new w 30 #[.int .i64 s, .slice A l.length c]
  obtain ⟨p0, p1, -, -⟩ := g0.two
  have HG := Lib.hid (implIsGraph_any s _ l _ (h.below b0) hl)
  have HB0 := Lib.hid b0
  have HG0 := Lib.hid g0
  clear h b0 g0
  by_cases hgd : P2.Good s l
  · rw [goodB_yes hgd] at HG ⊢
    have h0 := hgd.1
    have h8 := hgd.2.1
    obtain ⟨n, rfl⟩ : ∃ n : Nat, s = (n : Int) := ⟨s.toNat, by omega⟩
    have hn : n ≤ 8 := by omega
    have HV : Hid (fbV (n : Int) l = fbK l n 8) := by show _ = _; unfold fbV; rw [szG_yes hgd, Int.toNat_natCast]
    have HGD := Lib.hid hgd
    clear hgd
    go_enter Try.func27, Try.ntmps27
    go_wp2_with fail
    refine HG.out.mono ?_
    rintro e w1 ⟨rfl, b1⟩
    have HE1 := Lib.hid (btrans HB0.out b1)
    have HG1 := Lib.hid (HG0.out.below b1 HG0.out.lt)
    clear p0 p1 b1 HG HB0 HG0
    obtain ⟨p0, p1, -, -⟩ := HG1.out.two
    have HCB := Lib.hid (closedBits_any n (.slice A l.length c) l w1 (H.out.below HE1.out) hl HGD.out hn)
    go_wp2_with fail
    refine HCB.out.mono ?_
    rintro e w2 ⟨A3, c3, rfl, i3, b3⟩
    have HE2 := Lib.hid (btrans HE1.out b3)
    have HLF := Lib.hid (fun (kk : Nat) (h1 : 1 ≤ kk) (h8 : kk ≤ 8) (W : World) (hW : Below w2.heap.size w2 W) => largestFar_any n kk _ l W (i3.below hW) HGD.out hn h1 h8)
    have HCT := Lib.hid (fun (d : Nat) (hd : d < 256) (W : World) => count_any d W hd)
    clear p0 p1 b3 i3 HCB
    go_wp2_with fail
    go_loopg [5, 6] 8 (fun g bv kv wr => ∃ k : Nat, k + g = 8 ∧ bv = .int .i64 (fbK l n k) ∧ kv = .int .i64 ((k : Int) + 1) ∧ Below w2.heap.size w2 wr)
    case atStart => exact ⟨0, by omega, rfl, rfl, Below.refl _ _⟩
    case round =>
      obtain ⟨k, hkg, rfl, rfl, hB⟩ := hrel
      have HB := Lib.hid hB
      have hfk := fbK_le l n k
      cases gk with
      | zero =>
        obtain rfl : k = 8 := by omega
        clear hB
        go_wp2_with fail
        go_ret2
        rw [HV.out]
        exact ⟨rfl, btrans HE2.out HB.out⟩
      | succ g2 =>
        have hk8 : (k : Int) + 1 ≤ 8 := by omega
        have HLL := HLF.out (k + 1) (by omega) (by omega) wr hB
        rw [show ((k + 1 : Nat) : Int) = (k : Int) + 1 from by omega] at HLL
        have HL2 := Lib.hid HLL
        have HK : Hid (fbK l n (k + 1) = max (fbK l n k) (min (((k + 1 : Nat) : Int) + 1) (onesN (lfN l n (k + 1)) : Int))) := rfl
        have hol := ones_le (lfN l n (k + 1))
        clear hB HLL
        generalize lfN l n (k + 1) = y at *
        generalize fbK l n k = f0 at *
        go_wp2_with fail
        refine HL2.out.mono ?_
        rintro e w3 ⟨hlt, rfl, b3⟩
        have HB3 := Lib.hid (HB.out.trans (b3.mono HB.out.size))
        have hy8 : y < 256 := Nat.lt_of_lt_of_le hlt (pow_le hn)
        clear b3 hlt
        go_wp2_with fail
        refine (HCT.out y hy8 _).mono ?_
        rintro e w' ⟨rfl, rfl⟩
        generalize onesN y = o at *
        go_wp2_with fail
        all_goals
          go_roundg g2
          case measure => omega
          case rel => exact ⟨k + 1, by omega, by rw [HK.out]; congr 1; omega, by go_num, HB3.out⟩
  · rw [goodB_no hgd] at HG ⊢
    have HV : Hid (fbV s l = 0) := szG_no hgd _
    clear hgd
    go_enter Try.func27, Try.ntmps27
    go_wp2_with fail
    refine HG.out.mono ?_
    rintro e w1 ⟨rfl, b1⟩
    have HE1 := Lib.hid (btrans HB0.out b1)
    clear p0 p1 b1
    go_wp2_with fail
    go_ret2
    rw [HV.out]
    exact ⟨rfl, HE1.out⟩
set_option maxHeartbeats 2000000 in
set_option maxRecDepth 100000 in
theorem specFb_any (s : Int) (v : Value) (l : List Ed) (w : World) (h : Edges w v l) (hl : l.length ≤ 1048576) (hs1 : -9223372036854775808 ≤ s) (hs2 : s ≤ 9223372036854775807) :
    Calls Try.prog 26 #[.agg #[.int .i64 s, v]] w fun e w' => e = .returned (.tuple #[.int .i64 (fbV s l), .bool (goodB s l)]) ∧ Below w.heap.size w w' := by
  obtain ⟨A, c, rfl, -⟩ := h.form
  have H := Lib.hid h
  have b0 : Below w.heap.size w (w.alloc (.cells #[.int .i64 s, .slice A l.length c] 30)) := (Below.refl _ _).alloc (Nat.le_refl _) _
  have g0 := Blk.new w 30 #[.int .i64 s, .slice A l.length c]
  obtain ⟨p0, p1, -, -⟩ := g0.two
  have HG := Lib.hid (l2Good_any s _ l _ (h.below b0) hl hs1 hs2)
  have HB0 := Lib.hid b0
  have HG0 := Lib.hid g0
  clear h b0 g0
  by_cases hgd : P2.Good s l
  · rw [goodB_yes hgd] at HG ⊢
    have h0 := hgd.1
    have h8 := hgd.2.1
    obtain ⟨n, rfl⟩ : ∃ n : Nat, s = (n : Int) := ⟨s.toNat, by omega⟩
    have hn : n ≤ 8 := by omega
    have HV : Hid (fbV (n : Int) l = fbK l n 8) := by show _ = _; unfold fbV; rw [szG_yes hgd, Int.toNat_natCast]
    have HGD := Lib.hid hgd
    clear hgd
    go_enter Try.func26, Try.ntmps26
    go_wp2_with fail
    refine HG.out.mono ?_
    rintro e w1 ⟨rfl, b1⟩
    have HE1 := Lib.hid (btrans HB0.out b1)
    have HG1 := Lib.hid (HG0.out.below b1 HG0.out.lt)
    clear p0 p1 b1 HG HB0 HG0
    go_wp2_with fail
    go_loopg [4, 5] 8 (fun g bv kv wr => ∃ k : Nat, k + g = 8 ∧ bv = .int .i64 (fbK l n k) ∧ kv = .int .i64 ((k : Int) + 1) ∧ Blk wr w.heap.size 30 #[.int .i64 (n : Int), .slice A l.length c] ∧ Below w.heap.size w wr)
    case atStart => exact ⟨0, by omega, rfl, rfl, HG1.out, HE1.out⟩
    case round =>
      clear HG1 HE1
      obtain ⟨k, hkg, rfl, rfl, hgb, hB⟩ := hrel
      obtain ⟨p0, p1, -, -⟩ := hgb.two
      have HB := Lib.hid hB
      have HG := Lib.hid hgb
      have hfk := fbK_le l n k
      cases gk with
      | zero =>
        obtain rfl : k = 8 := by omega
        clear hB hgb
        go_wp2_with fail
        go_ret2
        rw [HV.out]
        exact ⟨rfl, HB.out⟩
      | succ g2 =>
        have hk8 : (k : Int) + 1 ≤ 8 := by omega
        have HLL := l8Largest_any n (k + 1) (.slice A l.length c) l wr (H.out.below hB) hl HGD.out hn (by omega) (by omega)
        rw [show ((k + 1 : Nat) : Int) = (k : Int) + 1 from by omega] at HLL
        have HL2 := Lib.hid HLL
        have HK : Hid (fbK l n (k + 1) = max (fbK l n k) (min ((k : Int) + 1 + 1) (onesN (lfN l n (k + 1)) : Int))) := rfl
        have hol := ones_le (lfN l n (k + 1))
        have HON : Hid ((ndN (lfN l n (k + 1))).length = onesN (lfN l n (k + 1))) := rfl
        have hol2 : (ndN (lfN l n (k + 1))).length ≤ 8 := by rw [HON.out]; exact hol
        have HMI := Lib.hid (fun (a b : Int) (W : World) => minmax.l1Least_any a b W)
        have HMA := Lib.hid (fun (a b : Int) (W : World) => minmax.l1Most_any a b W)
        rw [← HON.out] at HK
        clear hB HLL hgb hol
        generalize lfN l n (k + 1) = y at *
        generalize fbK l n k = f0 at *
        generalize (ndN y) = ny at *
        go_wp2_with fail
        refine HL2.out.mono ?_
        rintro e w3 ⟨A5, c5, rfl, o5, b3⟩
        have HB3 := Lib.hid (btrans HB.out b3)
        have HG3 := Lib.hid (HG.out.below b3 HG.out.lt)
        clear b3 o5 p0 p1
        go_wp2_with fail
        refine (HMI.out _ _ _).mono ?_
        rintro e w' ⟨rfl, rfl⟩
        go_wp2_with fail
        refine (HMA.out _ _ _).mono ?_
        rintro e w' ⟨rfl, rfl⟩
        go_wp2_with fail
        go_roundg g2
        case measure => omega
        case rel => exact ⟨k + 1, by omega, by rw [HK.out], by go_num, HG3.out, HB3.out⟩
  · rw [goodB_no hgd] at HG ⊢
    have HV : Hid (fbV s l = 0) := szG_no hgd _
    clear hgd
    go_enter Try.func26, Try.ntmps26
    go_wp2_with fail
    refine HG.out.mono ?_
    rintro e w1 ⟨rfl, b1⟩
    have HE1 := Lib.hid (btrans HB0.out b1)
    clear p0 p1 b1
    go_wp2_with fail
    go_ret2
    rw [HV.out]
    exact ⟨rfl, HE1.out⟩
end Go.Proofs.Ytgfjdkjoeaghoaa.ups

/- Arguments of the laws, opened: a Graph as it came in, a slice of integers as it came in. -/
namespace Go.Proofs.Ytgfjdkjoeaghoaa.opens
open Go.RowKit Go.Joins Go.ChangeShapes Go.WideShapes Go.Deep P2 words

theorem addr_add (g o j : Nat) : (⟨g, o, none⟩ : Addr).add j = ⟨g, o + j, none⟩ := by unfold Addr.add; split <;> simp_all
theorem add_of_add (a : Addr) (i j : Nat) : (a.add i).add j = a.add (i + j) := by
  unfold Addr.add
  by_cases hi : i = 0 <;> by_cases hj : j = 0 <;> simp [hi, hj, Nat.add_assoc]

/-- what is told of a Graph that came in -/
def IsGr (w : World) (s : Int) (v : Value) (l : List Ed) : Prop :=
  Edges w v l ∧ l.length ≤ maxLen ∧ -9223372036854775808 ≤ s ∧ s ≤ 9223372036854775807

theorem bounds64 {n : Int} (h : (Lit.int .i64 n).wf = true) : -9223372036854775808 ≤ n ∧ n ≤ 9223372036854775807 := by
  simp [Lit.wf, IntKind.min, IntKind.max, IntKind.signed, IntKind.bits] at h
  omega

/-- what is told of a slice of integers that came in -/
def IsIn (w : World) (v : Value) (l : List Int) : Prop := Ints w v l ∧ l.length ≤ maxLen ∧ ∀ x ∈ l, -9223372036854775808 ≤ x ∧ x ≤ 9223372036854775807

section
variable {H : Type} {enc : TypeId × Value → H} {w : World} {spare : Nat → Bool} {held : Bool}
theorem open_edges {fuel : Nat} {v : Value} {x : DataW H × List MemPlace} (h : DataW.trod enc Try.prog w 0 spare held fuel 22 [v] = some x) :
    ∃ l : List Ed, Edges w v l ∧ l.length ≤ maxLen := by
  rcases open_slice Try.underlying22 h with ⟨hv, _⟩ | ⟨a, len, cap, m, n, D, Pl, hv, _, hl, hm, hmm, _, hi⟩
  · obtain rfl : v = .slice none 0 0 := by simpa using hv
    exact ⟨[], Reads.nil _ _, Nat.zero_le _⟩
  · obtain rfl : v = .slice (some a) len cap := by simpa using hv
    have hlm : len ≤ m := by rw [hmm]; split <;> omega
    have hC : Try.prog.cellsOf 84 = 2 := by kernel_rfl
    have hC1 : Try.prog.cellsOf 3 = 1 := by kernel_rfl
    rw [hC] at hi
    have key : ∀ i, i < len → ∃ e : Ed, w.cell? (a.add (i * 2)) = some (.int .i64 e.1) ∧ w.cell? (a.add (i * 2 + 1)) = some (.int .i64 e.2) := fun i hil => by
      obtain ⟨cs', hc, ht⟩ := hi i (by omega)
      obtain ⟨xs, m', _, _, _, hxl, he⟩ := DataW.trod_array Try.underlying84 ht
      obtain ⟨_, hcl, hat⟩ := World.cells?_some hc
      rw [hC1] at he
      match cs', hcl with
      | [c0, c1], _ =>
        match xs, hxl with
        | [y0, y1], _ =>
          have e0 : DataW.trod enc Try.prog w 0 spare held m' 3 [c0] = some y0 := he 0 (by decide)
          have e1 : DataW.trod enc Try.prog w 0 spare held m' 3 [c1] = some y1 := he 1 (by decide)
          obtain ⟨n0, h0, _, _⟩ := DataW.trod_int Try.underlying3 e0
          obtain ⟨n1, h1, _, _⟩ := DataW.trod_int Try.underlying3 e1
          obtain rfl : c0 = .int .i64 n0 := by simpa using h0
          obtain rfl : c1 = .int .i64 n1 := by simpa using h1
          have a0 := hat 0 (by decide)
          have a1 := hat 1 (by decide)
          rw [add_of_add] at a0 a1
          exact ⟨(n0, n1), by simpa using a0, by simpa using a1⟩
    obtain ⟨f, hf⟩ := choose_lt (α := Ed) key
    refine ⟨(List.range len).map f, ⟨some a, cap, by simp, fun hn => ?_⟩, by simp; omega⟩
    simp only [List.length_map, List.length_range] at hn ⊢
    obtain ⟨b, off, spot⟩ := a
    have hc0 := (hf 0 hn).1
    have hspot : spot = none := by simpa [Addr.add] using World.cell?_spot hc0
    subst hspot
    refine ⟨b, off, rfl, hl, fun j u hu => ?_⟩
    have hjl : j < len * 2 := by
      have := (List.getElem?_eq_some_iff.1 hu).1
      rw [cellsE_len] at this; simpa using this
    obtain ⟨k, hk⟩ : ∃ k, k = j / 2 := ⟨_, rfl⟩
    have hkl : k < len := by omega
    have hkf : ((List.range len).map f)[k]? = some (f k) := by simp [hkl]
    have hck := cellsE_at hkf
    have hcl := hf k hkl
    rw [addr_add, addr_add] at hcl
    rcases Nat.mod_two_eq_zero_or_one j with h0 | h0
    · obtain rfl : j = k * 2 := by omega
      rw [hck.1] at hu
      rw [hcl.1, ← hu]
    · obtain rfl : j = k * 2 + 1 := by omega
      rw [hck.2] at hu
      rw [hcl.2, ← hu]

set_option maxRecDepth 100000 in
theorem open_graph {r : Reach} {b0 : Nat} {v : Value} {d : DataW H} {p : List MemPlace} (hv : Value.okWide Try.prog w r b0 24 v)
    (h : DataW.Trod enc Try.prog w 0 spare held 24 v d p) : ∃ s u l, v = .agg #[.int .i64 s, u] ∧ IsGr w s u l := by
  obtain ⟨c0, c1, y0, y1, m, rfl, _, _, h0, h1⟩ := open_agg2 Try.underlying24 (by kernel_rfl) (by kernel_rfl) hv h
  obtain ⟨n0, k0, _, w0⟩ := DataW.trod_int Try.underlying3 h0
  obtain rfl : c0 = .int .i64 n0 := by simpa using k0
  obtain ⟨l, he, hl⟩ := open_edges h1
  exact ⟨n0, c1, l, rfl, he, hl, bounds64 w0⟩

set_option maxRecDepth 100000 in
theorem open_intsl {r : Reach} {b0 : Nat} {v : Value} {d : DataW H} {p : List MemPlace} (hv : Value.okWide Try.prog w r b0 37 v)
    (h : DataW.Trod enc Try.prog w 0 spare held 37 v d p) : ∃ u l, v = u ∧ IsIn w u l := by
  obtain ⟨A, len, cap, rfl⟩ := okWide_slice Try.underlying37 hv
  obtain ⟨fuel, hf⟩ := h
  simp only [Value.cells] at hf
  rcases open_slice Try.underlying37 hf with ⟨hv, _⟩ | ⟨a, len', cap', m, n, D, Pl, hv, _, hl, hm, hmm, _, hi⟩
  · have e : Value.slice A len cap = .slice none 0 0 := by simpa using hv
    rw [e]
    exact ⟨_, [], rfl, Reads.nil _ _, Nat.zero_le _, fun x hx => by cases hx⟩
  · have e : Value.slice A len cap = .slice (some a) len' cap' := by simpa using hv
    rw [e]
    have hlm : len' ≤ m := by rw [hmm]; split <;> omega
    have hC1 : Try.prog.cellsOf 3 = 1 := by kernel_rfl
    rw [hC1] at hi
    have key : ∀ i, i < len' → ∃ x : Int, w.cell? (a.add i) = some (.int .i64 x) ∧ (Lit.int .i64 x).wf = true := fun i hil => by
      obtain ⟨cs', hc, ht⟩ := hi i (by omega)
      obtain ⟨_, hcl, hat⟩ := World.cells?_some hc
      match cs', hcl with
      | [c0], _ =>
        obtain ⟨n0, h0, _, hw⟩ := DataW.trod_int Try.underlying3 ht
        obtain rfl : c0 = .int .i64 n0 := by simpa using h0
        have a0 := hat 0 (by decide)
        rw [add_of_add, Nat.mul_one] at a0
        exact ⟨n0, by simpa using a0, hw⟩
    obtain ⟨f, hf⟩ := choose_lt (α := Int) key
    refine ⟨_, (List.range len').map f, rfl, ⟨some a, cap', by simp, fun hn => ?_⟩, by simp; omega, fun x hx => ?_⟩
    · simp only [List.length_map, List.length_range] at hn ⊢
      obtain ⟨b, off, spot⟩ := a
      have hc0 := (hf 0 hn).1
      have hspot : spot = none := by simpa [Addr.add] using World.cell?_spot hc0
      subst hspot
      refine ⟨b, off, rfl, hl, fun j u hu => ?_⟩
      have hjl : j < len' := by
        have := (List.getElem?_eq_some_iff.1 hu).1
        rw [cellsI_len] at this; simpa using this
      have hcl := (hf j hjl).1
      rw [addr_add] at hcl
      have hkf : ((List.range len').map f)[j]? = some (f j) := by simp [hjl]
      rw [cellsI_at hkf] at hu
      rw [hcl, ← hu]
    · simp only [List.mem_map, List.mem_range] at hx
      obtain ⟨j, hj, rfl⟩ := hx
      exact bounds64 (hf j hj).2
end
end Go.Proofs.Ytgfjdkjoeaghoaa.opens
