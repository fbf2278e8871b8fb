/- Forcing: the contract of the program's ForceRounds. -/
import Derived.Handy
import Derived.Test.YtfphpilabfpmjaaForcN
import Derived.Test.YtfphpilabfpmjaaForcK
import Derived.Deep.DeepCutAuto
import Derived.Deep.RegionHeld3
import Derived.Deep.QuietTactic
namespace Go.Proofs.Ytfphpilabfpmjaa.forc
open Go.RowKit P2 words edges ints good adjs fns sets rets covs bags bitsI ups func gridr
set_option linter.unusedVariables false

/-- a row in the making: the first k numbers are there -/
def upT (f : Nat → Int) (n k : Nat) : List Int := (List.range k).map f ++ List.replicate (n - k) 0
theorem upT_len (f : Nat → Int) {n k : Nat} (h : k ≤ n) : (upT f n k).length = n := by simp [upT]; omega
theorem upT_zero (f : Nat → Int) (n : Nat) : upT f n 0 = List.replicate n 0 := by simp [upT]
theorem upT_all (f : Nat → Int) (n : Nat) : upT f n n = (List.range n).map f := by simp [upT]
theorem upT_set (f : Nat → Int) {n k : Nat} (h : k < n) : (upT f n k).set k (f k) = upT f n (k + 1) := by
  unfold upT
  rw [show n - k = (n - (k + 1)) + 1 from by omega, List.replicate_succ, List.set_append_right _ _ (by simp), List.length_map, List.length_range, Nat.sub_self, List.set_cons_zero, List.range_succ, List.map_append, List.append_assoc]
  rfl
theorem cellsI_set9 (l : List Int) (k : Nat) (x : Int) : (cellsI l).set k (.int .i64 x) = cellsI (l.set k x) := by simp [cellsI, List.map_set]
/-- a slice of colourings that reads as a list -/
abbrev Cols (w : World) (v : Value) (sk : Bool) (L : List Nat) : Prop := Reads w 2 v L.length (cellsC sk L)
theorem Cols.form {w : World} {v : Value} {sk : Bool} {L : List Nat} (h : Cols w v sk L) : ∃ A c, v = .slice A L.length c ∧ ∀ (k : Nat) (d : Nat), L[k]? = some d → ∃ g o, A = some ⟨g, o, none⟩ ∧ w.cell? ⟨g, o + k * 2, none⟩ = some (.int .u64 (d : Int)) ∧ w.cell? ⟨g, o + k * 2 + 1, none⟩ = some (.bool sk) := by
  obtain ⟨A, c, e, hx⟩ := h
  refine ⟨A, c, e, fun k x hk => ?_⟩
  obtain ⟨g, o, rfl, _, hj⟩ := hx (by have := (List.getElem?_eq_some_iff.1 hk).1; omega)
  exact ⟨g, o, rfl, hj _ _ (cellsC_at hk).1, hj _ _ (cellsC_at hk).2⟩
structure FnC (w : World) (f : FuncId) (caps : Array Value) (sk : Bool) (xs : List Nat) (p : Nat → Bool) : Prop where
  enter : ∀ (args : Array Value) (W : World), (callFunc f args).run Try.prog W = .ok (.enter f args) W
  call : ∀ W, Below w.heap.size w W → ∀ x ∈ xs, Calls Try.prog f (#[.agg #[.int .u64 (x : Int), .bool sk]] ++ caps) W fun e W' => e = .returned (.bool (p x)) ∧ Below W.heap.size W W'
set_option maxHeartbeats 1000000 in
theorem indexFuncC_any (u : Value) (sk : Bool) (xs : List Nat) (f : FuncId) (caps : Array Value) (p : Nat → Bool) (w : World) (hu : Cols w u sk xs) (hxl : xs.length ≤ 1048576) (h : FnC w f caps sk xs p) :
    Calls Try.prog 66 #[u, .func (.func f) #[] caps] w fun e w' => e = .returned (.int .i64 (idxF p xs)) ∧ Below w.heap.size w w' := by
  obtain ⟨A2, c2, rfl, hc⟩ := hu.form
  have HC := Lib.hid hc
  have hent := h.enter
  have HF := Lib.hid h.call
  clear hu hc h
  go_enter Try.func66, Try.ntmps66
  go_wp2_with fail
  go_loopg [8] xs.length (fun g i wr => ∃ k : Nat, k + g = xs.length ∧ i = .int .i64 (k : Int) ∧ Hid (∀ j y, j < k → xs[j]? = some y → p y = false) ∧ Below w.heap.size w wr)
  case atStart => exact ⟨0, by omega, rfl, fun j e h => by omega, Below.refl _ _⟩
  case round =>
    obtain ⟨k, hkg, rfl, hno, hB⟩ := hrel
    cases gk with
    | zero =>
      obtain rfl : k = xs.length := by omega
      have HN := Lib.hid (idxF_none hno.out)
      go_wp2_with fail
      go_ret
      exact ⟨ret_int (by rw [HN.out]), hB⟩
    | succ g2 =>
      have hlt : k < xs.length := by omega
      have hlt' : (k : Int) < (xs.length : Int) := by omega
      obtain ⟨y, hy⟩ : ∃ y, xs[k]? = some y := ⟨_, List.getElem?_eq_getElem hlt⟩
      obtain ⟨g, o, rfl, c0, c1⟩ := HC.out k y hy
      have q0 := nearv.cell_keep c0 hB
      have q1 := nearv.cell_keep c1 hB
      have HP := Lib.hid (HF.out wr hB y (List.mem_of_getElem? hy))
      clear c0 c1
      cases hp : p y with
      | true =>
        have HN := Lib.hid (idxF_at hno.out hy hp)
        rw [hp] at HP
        clear hy hp
        go_wp2_with fail
        refine HP.out.mono ?_
        rintro e w1 ⟨rfl, b1⟩
        go_wp2_with fail
        go_ret
        exact ⟨ret_int (by rw [HN.out]), btrans hB b1⟩
      | false =>
        have HK := Lib.hid (no_succ hno.out hy hp)
        rw [hp] at HP
        clear hy hp
        go_wp2_with fail
        refine HP.out.mono ?_
        rintro e w1 ⟨rfl, b1⟩
        have hB1 := btrans hB b1
        clear hB b1 q0 q1
        go_wp2_with fail
        go_roundg g2
        case measure => omega
        case rel => exact ⟨k + 1, by omega, by go_num, HK, hB1⟩
/-- the rounds, as a list -/
def frdL (s : Int) (l : List Ed) (xs : List Int) : List Int := fstL s.toNat l (codeL xs) s.toNat
set_option maxHeartbeats 1000000 in
set_option maxRecDepth 100000 in
theorem frdClo_any (d x b : Nat) (sk : Bool) (w : World) (h1 : w.cell? ⟨b, 0, none⟩ = some (.int .i64 (x : Int))) (hd : d < 256) (hx : x ≤ 8) :
    Calls Try.prog 67 #[.agg #[.int .u64 (d : Int), .bool sk], .pointer (some ⟨b, 0, none⟩)] w fun e w' => e = .returned (.bool (d.testBit x)) ∧ Below w.heap.size w w' := by
  have b0 : Below w.heap.size w (w.alloc (.cells #[.int .u64 (d : Int), .bool sk] 55)) := (Below.refl _ _).alloc (Nat.le_refl _) _
  have q1 := nearv.cell_keep h1 b0
  obtain ⟨p0, p1, -, -⟩ := (Blk.new w 55 #[.int .u64 (d : Int), .bool sk]).two
  have HB0 := Lib.hid b0
  have HH := Lib.hid (fun (W : World) => has_any d x W (by omega) hx)
  clear h1 b0 hd hx
  generalize d.testBit x = bb at *
  go_enter Try.func67, Try.ntmps67
  go_wp2_with fail
  refine (HH.out _).mono ?_
  rintro e w' ⟨rfl, rfl⟩
  go_wp2_with fail
  go_ret
  exact ⟨rfl, HB0.out⟩
set_option maxHeartbeats 4000000 in
set_option maxRecDepth 100000 in
theorem implForceRounds_any (s : Int) (v u : Value) (l : List Ed) (xs : List Int) (w : World) (h : Edges w v l) (hl : l.length ≤ 1048576) (hu : Ints w u xs) (hxl : xs.length ≤ 1048576) :
    Calls Try.prog 28 #[.agg #[.int .i64 s, v], u] w (RetI w (SetOk s l xs) (frdL s l xs)) := by
  obtain ⟨i0, hi, hz0, hz1, hz2⟩ := info_parts infoInt
  obtain ⟨A, c, rfl, -⟩ := h.form
  have hmf : ∀ (fn : Fn) (first cap : Array Value) (w : World), (Instr.makeFunc fn first cap).run Try.prog w = .ok (.func fn first cap) w := fun _ _ _ _ => rfl
  have H := Lib.hid h
  have HU := Lib.hid hu
  have b0 : Below w.heap.size w (w.alloc (.cells #[.int .i64 s, .slice A l.length c] 29)) := (Below.refl _ _).alloc (Nat.le_refl _) _
  have g0 := Blk.new w 29 #[.int .i64 s, .slice A l.length c]
  obtain ⟨p0, p1, -, -⟩ := g0.two
  have HS := Lib.hid (hasSet_any s (.slice A l.length c) u l xs _ (h.below b0) hl (hu.below b0) hxl)
  have HB0 := Lib.hid b0
  have HG0 := Lib.hid g0
  clear h hu b0 g0
  by_cases hso : SetOk s l xs
  · rw [okG_yes hso] at HS
    have h0 := hso.1.1
    have h8 := hso.1.2.1
    obtain ⟨n, rfl⟩ : ∃ n : Nat, s = (n : Int) := ⟨s.toNat, by omega⟩
    have hn : n ≤ 8 := by omega
    have HOK := Lib.hid hso
    have HC := Lib.hid (code_set hso)
    have hmk := fun (W : World) => run_make_rowN (P := Try.prog) 25 3 i0 (.int .i64 0) Try.underlying25 hi hz0 .i64 .i64 n n (Nat.le_refl _) (by rw [hz2]; omega) (by omega) W
    rw [hz1] at hmk
    have HV : Hid (frdL (n : Int) l xs = (List.range n).map fun x => idxF (fun d => Nat.testBit d x) (rnds n l false (codeL xs))) := by
      show _ = _
      unfold frdL fstL
      rw [Int.toNat_natCast]
      exact List.map_congr_left fun x _ => (fst_idx hn HC.out).symm
    have HRL : Hid ((rnds n l false (codeL xs)).length ≤ 9) := (rnd_len n l false 8 (codeL xs)).2
    have HRM : Hid (∀ d ∈ rnds n l false (codeL xs), d < 256) := fun d hd => Nat.lt_of_lt_of_le (rnd_mem 8 HC.out d hd) (pow_le hn)
    clear hso
    go_enter Try.func28, Try.ntmps28
    go_wp2_with fail
    refine HS.out.mono ?_
    rintro e w1 ⟨rfl, b1⟩
    have HE1 := Lib.hid (btrans HB0.out b1)
    have HG1 := Lib.hid (HG0.out.below b1 HG0.out.lt)
    clear p0 p1 b1 HS HB0 HG0
    obtain ⟨p0, p1, -, -⟩ := HG1.out.two
    have HCB := Lib.hid (closedBits_any n (.slice A l.length c) l w1 (H.out.below HE1.out) hl HOK.out.1 hn)
    go_wp2_with fail
    refine HCB.out.mono ?_
    rintro e w3 ⟨A3, c3, rfl, i3, b3⟩
    have HE3 := Lib.hid (btrans HE1.out b3)
    have HG3 := Lib.hid (HG1.out.below b3 HG1.out.lt)
    have HI3 := Lib.hid i3
    have HBO := Lib.hid (bitsOf_any u xs w3 (HU.out.below HE3.out) hxl (fun x hx => by have := HOK.out.2.1 x hx; omega))
    clear p0 p1 b3 i3 HCB
    go_wp2_with fail
    refine HBO.out.mono ?_
    rintro e w' ⟨rfl, rfl⟩
    have HBG := Lib.hid (beginPlain_any n (codeL xs) _ l w3 HI3.out HOK.out.1 hn HC.out)
    go_wp2_with fail
    refine HBG.out.mono ?_
    rintro e w4 ⟨rfl, b4⟩
    have HE4 := Lib.hid (btrans HE3.out b4)
    have HG4 := Lib.hid (HG3.out.below b4 HG3.out.lt)
    have HRD := Lib.hid (rounds_any n (codeL xs) false _ l w4 (HI3.out.below b4) HOK.out.1 hn HC.out)
    clear b4 HBG HBO
    generalize rnds n l false (codeL xs) = R at *
    go_wp2_with fail
    refine HRD.out.mono ?_
    rintro e w5 ⟨A6, c6, rfl, o6, b6⟩
    have HE5 := Lib.hid (btrans HE4.out b6)
    have HG5 := Lib.hid (HG4.out.below b6 HG4.out.lt)
    have HR5 : Hid (Cols w5 (.slice A6 R.length c6) false R) := Reads.of_own o6
    obtain ⟨p0, p1, -, -⟩ := HG5.out.two
    have hown := World.ownsRow_lit (base := w5.heap.size) (e := 3) (size := 1) w5 (madeCells #[Value.int .i64 0] (n * 1)) n (Nat.le_refl _) (by unfold maxLen; omega) (size_madeCells _ _)
    rw [toList_madeCells_one, Nat.mul_one, show List.replicate n (Value.int .i64 0) = cellsI (upT (fun x => idxF (fun d => Nat.testBit d x) R) n 0) from by rw [upT_zero]; simp [cellsI]] at hown
    have HOWN := Lib.hid hown
    have HB5 := Lib.hid ((Below.refl w5.heap.size w5).alloc (Nat.le_refl _) (.cells (madeCells #[.int .i64 0] n) 3))
    clear b6 o6 hown HRD HE4 HG4
    simp only [Nat.mul_one] at hmk
    go_wp2_with fail
    clear hmk p0 p1
    go_loopg [27] n (fun g iv wr => ∃ k : Nat, k + g = n ∧ iv = .int .i64 (k : Int) ∧ wr.ownsRow w5.heap.size 3 1 (.slice (some ⟨w5.heap.size, 0, none⟩) n n) n (cellsI (upT (fun x => idxF (fun d => Nat.testBit d x) R) n k)) ∧ Below w5.heap.size w5 wr)
    case atStart => exact ⟨0, by omega, rfl, HOWN.out, HB5.out⟩
    case round =>
      clear HOWN HB5
      obtain ⟨k, hkg, rfl, hrow, hB⟩ := hrel
      cases gk with
      | zero =>
        obtain rfl : k = n := by omega
        rw [upT_all] at hrow
        have HLN : Hid (((List.range k).map fun x => idxF (fun d => Nat.testBit d x) R).length = k) := by show _ = _; simp
        have HR : Hid (wr.ownsRow w.heap.size 3 1 (.slice (some ⟨w5.heap.size, 0, none⟩) ((List.range k).map fun x => idxF (fun d => Nat.testBit d x) R).length k) ((List.range k).map fun x => idxF (fun d => Nat.testBit d x) R).length (cellsI ((List.range k).map fun x => idxF (fun d => Nat.testBit d x) R))) := by
          show World.ownsRow _ _ _ _ _ _ _
          rw [HLN.out]
          exact own_base hrow HE5.out.size
        have HB := Lib.hid (btrans HE5.out hB)
        clear hrow hB
        go_wp2_with fail
        go_ret2
        rw [HV.out]
        have h_ := RetI.yes HOK.out HR.out HB.out
        rw [HLN.out] at h_
        exact h_
      | succ g2 =>
        have hlt : k < n := by omega
        have hlt' : (k : Int) < (n : Int) := by omega
        have hll := upT_len (fun x => idxF (fun d => Nat.testBit d x) R) (n := n) (k := k) (by omega)
        have hsz5 := hB.size
        have bX : Below wr.heap.size wr (wr.alloc (.cells #[.int .i64 (k : Int)] 3)) := (Below.refl _ _).alloc (Nat.le_refl _) _
        have HX := Lib.hid (Blk.new wr 3 #[.int .i64 (k : Int)])
        have hrowX := own_below hrow bX
        have HBX := Lib.hid (btrans hB bX)
        obtain ⟨u0, hu0⟩ : ∃ u, (upT (fun x => idxF (fun d => Nat.testBit d x) R) n k)[k]? = some u := ⟨_, List.getElem?_eq_getElem (by omega)⟩
        have HRX := Lib.hid hrowX
        have HU0 := Lib.hid hu0
        have HIX := Lib.hid (indexFuncC_any (.slice A6 R.length c6) false R 67 #[.pointer (some ⟨wr.heap.size, 0, none⟩)] (fun d => Nat.testBit d k) (wr.alloc (.cells #[.int .i64 (k : Int)] 3)).drew ((HR5.out.below HBX.out).below (Below.refl _ _).drew) (by have := HRL.out; omega)
          { enter := fun _ _ => by kernel_rfl
            call := fun W hW x hx => frdClo_any x k wr.heap.size false W ((HX.out.below (btrans (Below.refl _ _).drew hW) HX.out.lt).cell 0) (HRM.out x hx) (by omega) })
        have HSS : Hid ((upT (fun x => idxF (fun d => Nat.testBit d x) R) n k).set k (idxF (fun d => Nat.testBit d k) R) = upT (fun x => idxF (fun d => Nat.testBit d x) R) n (k + 1)) := upT_set (fun x => idxF (fun d => Nat.testBit d x) R) hlt
        have p3 := HX.out.cell 0
        clear hu0 hrow hB hrowX bX hll
        generalize hFV : idxF (fun d => Nat.testBit d k) R = fv at *
        have HFV := Lib.hid hFV
        clear hFV
        generalize hWX : wr.alloc (.cells #[.int .i64 (k : Int)] 3) = wx at *
        have HWX := Lib.hid hWX
        clear hWX
        have HFI := Lib.hid (HRX.out.cellAt k (by omega))
        rw [cellsI_at HU0.out] at HFI
        go_wp2_with fail
        rw [HWX.out]
        go_region_with (go_at_call 66; (with_reducible refine HIX.out.mono ?_); rintro e w6 ⟨rfl, b6⟩; have d6 : Below wx.heap.size wx w6 := btrans (Below.refl _ _).drew b6; have j0 := (HX.out.below d6 HX.out.lt).cell 0; have HR6 := own_below HRX.out d6; have f6 := HR6.cellAt k (by omega); rw [cellsI_at HU0.out] at f6; have z6 := HR6.frozenAt k)
        all_goals
          have HST := Lib.hid (HR6.stored k (.int .i64 fv)).1
          have HB6 := Lib.hid ((btrans HBX.out d6).setCell (p := ⟨w5.heap.size, k, none⟩) (Nat.le_refl _) (.int .i64 fv))
          clear f6 z6 j0 HR6 d6 b6
          go_wp2_with fail
          go_roundg g2
          case measure => omega
          case rel =>
            have h_ := HST.out
            rw [cellsI_set9, HSS.out] at h_
            exact ⟨k + 1, by omega, by go_num, h_, HB6.out⟩
  · rw [okG_no hso] at HS
    have HNO := Lib.hid hso
    clear hso
    go_enter Try.func28, Try.ntmps28
    go_wp2_with fail
    refine HS.out.mono ?_
    rintro e w1 ⟨rfl, b1⟩
    have HE1 := Lib.hid (btrans HB0.out b1)
    clear p0 p1 b1
    go_wp2_with fail
    go_ret2
    exact RetI.nil HNO.out HE1.out
end Go.Proofs.Ytfphpilabfpmjaa.forc
