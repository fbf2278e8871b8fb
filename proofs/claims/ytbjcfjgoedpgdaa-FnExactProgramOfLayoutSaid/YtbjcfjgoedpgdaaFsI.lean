/- The contracts of the program's frontAt and FrontSizes. -/
import Derived.Handy
import Derived.Test.YtbjcfjgoedpgdaaFrontS
import Derived.Test.YtbjcfjgoedpgdaaOnes
import Derived.Deep.QuietTactic
namespace Go.Proofs.Ytbjcfjgoedpgdaa.fronts
open Go.RowKit P2 words edges ints good adjs fns sets rets covs reach bags balls bitsI each
set_option linter.unusedVariables false

/-- how many nodes there are in the front of the first i + 1 nodes -/
noncomputable def fsz (n : Nat) (l : List Ed) (tl : List Int) (i : Nat) : Int := ((nw (frontB l n (goneB (tl.take (i + 1)))) n).length : Int)
noncomputable def fszK (n : Nat) (l : List Ed) (tl : List Int) (k : Nat) : List Int := (List.range k).map (fsz n l tl)
theorem fszK_len (n : Nat) (l : List Ed) (tl : List Int) (k : Nat) : (fszK n l tl k).length = k := by simp [fszK]
theorem fszK_succ (n : Nat) (l : List Ed) (tl : List Int) (k : Nat) : fszK n l tl (k + 1) = fszK n l tl k ++ [fsz n l tl k] := by simp [fszK, List.range_succ]
noncomputable def fszR (n : Nat) (l : List Ed) (tl : List Int) (k : Nat) : List Int := fszK n l tl k ++ List.replicate (n - k) 0
theorem fszR_len (n : Nat) (l : List Ed) (tl : List Int) {k : Nat} (h : k ≤ n) : (fszR n l tl k).length = n := by simp [fszR, fszK_len]; omega
theorem fszR_zero (n : Nat) (l : List Ed) (tl : List Int) : fszR n l tl 0 = List.replicate n 0 := by simp [fszR, fszK]
theorem fszR_all (n : Nat) (l : List Ed) (tl : List Int) : fszR n l tl n = fszK n l tl n := by simp [fszR]
theorem fszR_set {n : Nat} {l : List Ed} {tl : List Int} {k : Nat} (h : k < n) : (fszR n l tl k).set k (fsz n l tl k) = fszR n l tl (k + 1) := by
  unfold fszR
  rw [show n - k = (n - (k + 1)) + 1 from by omega, List.replicate_succ, List.set_append_right _ _ (by rw [fszK_len]; exact Nat.le_refl _), fszK_len, Nat.sub_self, List.set_cons_zero, fszK_succ, List.append_assoc]
  rfl
theorem cellsI_set (l : List Int) (k : Nat) (x : Int) : (cellsI l).set k (.int .i64 x) = cellsI (l.set k x) := by simp [cellsI, List.map_set]
theorem fsz_len (s : Int) (l : List Ed) (tl : List Int) : (inG (ElimOk s l tl) (fszK s.toNat l tl s.toNat)).length ≤ 1048576 := inG_len fun hp => by
  rw [fszK_len]; have := hp.1.1; have := hp.1.2.1; omega
set_option maxHeartbeats 1000000 in
set_option maxRecDepth 100000 in
theorem frontClo_any (n x : Nat) (S : Nat → Bool) (b : Nat) (v : Value) (l : List Ed) (w : World) (hc : w.cell? ⟨b, 0, none⟩ = some v) (h : Nums w v (clos l n)) (hg : P2.Good (n : Int) l) (hn : n ≤ 8) (hx : x < n) :
    Calls Try.prog 82 #[.int .u64 (numOf S n : Int), .int .i64 (x : Int), .pointer (some ⟨b, 0, none⟩)] w fun e w' => e = .returned (.int .i64 ((nw (frontB l n (pput S x)) n).length : Int)) ∧ ∃ m, w' = w.drewN m := by
  have HF := Lib.hid (fun (W : World) (hW : Nums W v (clos l n)) => frontIn_any n (pput S x) v l W hW hg hn)
  have HCT := Lib.hid (fun (W : World) => count_any (numOf (frontB l n (pput S x)) n) W (numOf_lt _ hn))
  rw [ones_num _ hn] at HCT
  have HD := Lib.hid (fun (m : Nat) => (show Nums (w.drewN m) v (clos l n) from h))
  have hpw := or_walk (numOf S n) x (numOf_lt S hn) (by omega)
  rw [num_or_one S hx] at hpw
  have hx0 : (0 : Int) ≤ (x : Int) := by omega
  clear h hg
  generalize numOf (frontB l n (pput S x)) n = a at *
  generalize numOf (pput S x) n = d at *
  generalize numOf S n = gg at *
  generalize (nw (frontB l n (pput S x)) n).length = rr at *
  go_enter Try.func82, Try.ntmps82
  go_wp2_with fail
  go_quiet (first | (go_at_call 54; exact quiet_left (HF.out _ (HD.out _))) | (go_at_call 67; exact quiet_left (HCT.out _)))
  go_wp2_with fail
  go_ret
  exact ⟨rfl, _, rfl⟩
theorem frontAt_any (n : Nat) (v : Value) (l : List Ed) (w : World) (h : Edges w v l) (hl : l.length ≤ 1048576) (hg : P2.Good (n : Int) l) (hn : n ≤ 8) :
    Calls Try.prog 59 #[.agg #[.int .i64 (n : Int), v]] w fun e w' => ∃ b A c, e = .returned (.func (.func 82) #[] #[.pointer (some ⟨b, 0, none⟩)]) ∧ w'.cell? ⟨b, 0, none⟩ = some (.slice A (clos l n).length c) ∧ Nums w' (.slice A (clos l n).length c) (clos l n) ∧ Below w.heap.size w w' := by
  obtain ⟨A, c, rfl, -⟩ := h.form
  have hmf : ∀ (fn : Fn) (first cap : Array Value) (w : World), (Instr.makeFunc fn first cap).run Try.prog w = .ok (.func fn first cap) w := fun _ _ _ _ => rfl
  have b0 : Below w.heap.size w (w.alloc (.cells #[.int .i64 (n : Int), .slice A l.length c] 29)) := (Below.refl _ _).alloc (Nat.le_refl _) _
  obtain ⟨p0, p1, -, -⟩ := (Blk.new w 29 #[.int .i64 (n : Int), .slice A l.length c]).two
  have HC := Lib.hid (closedBits_any n (.slice A l.length c) l _ (h.below b0) hl hg hn)
  clear h hg
  go_enter Try.func59, Try.ntmps59
  go_wp2_with fail
  refine HC.out.mono ?_
  rintro e w2 ⟨A3, c3, rfl, i3, b3⟩
  have HE2 := Lib.hid (btrans b0 b3)
  have HI := Lib.hid i3
  clear i3 b3 HC p0 p1 b0
  generalize hm : (clos l n).length = m at *
  have HM := Lib.hid hm
  clear hm
  go_wp2_with fail
  go_ret
  have h9 := HI.out
  rw [← HM.out] at h9 ⊢
  refine ⟨w2.heap.size, A3, c3, rfl, (Blk.new w2 55 #[.slice A3 (clos l n).length c3]).cell 0, h9.below ((Below.refl _ _).alloc (Nat.le_refl _) _), HE2.out.alloc HE2.out.size _⟩
set_option maxHeartbeats 2000000 in
set_option maxRecDepth 100000 in
theorem implFrontSizes_any (s : Int) (v u : Value) (l : List Ed) (tl : List Int) (w : World) (h : Edges w v l) (hl : l.length ≤ 1048576) (hu : Ints w u tl) (htl : tl.length ≤ 1048576) :
    Calls Try.prog 26 #[.agg #[.int .i64 s, v], u] w (RetI w (ElimOk s l tl) (fszK s.toNat l tl s.toNat)) := by
  obtain ⟨A, c, rfl, -⟩ := h.form
  obtain ⟨A2, c2, rfl, hc2⟩ := hu.form
  have H := Lib.hid h
  have HU := Lib.hid hu
  have HC2 := Lib.hid hc2
  have hcap := ints_cap hu
  have b0 : Below w.heap.size w (w.alloc (.cells #[.int .i64 s, .slice A l.length c] 29)) := (Below.refl _ _).alloc (Nat.le_refl _) _
  have g0 := Blk.new w 29 #[.int .i64 s, .slice A l.length c]
  have HO := Lib.hid (hasOrder_any s _ _ l tl _ (h.below b0) hl (hu.below b0) htl)
  clear h hu hc2
  by_cases hok : ElimOk s l tl
  · rw [okG_yes (show P2.Good s l ∧ EachS s.toNat tl from hok)] at HO
    have h0 := hok.1.1
    have h8 := hok.1.2.1
    obtain ⟨n, rfl⟩ : ∃ n : Nat, s = (n : Int) := ⟨s.toNat, by omega⟩
    rw [Int.toNat_natCast]
    have HOK := Lib.hid hok
    have hn : n ≤ 8 := by omega
    have HE : Hid (EachS n tl) := by have := hok.2; rwa [Int.toNat_natCast] at this
    obtain ⟨i0, hi, hz0, hz1, hz2⟩ := info_parts infoInt
    have hnl := HE.out.1
    rw [hnl] at HO hcap HU ⊢
    have hmk := fun (W : World) => run_make_rowN (P := Try.prog) 25 3 i0 (.int .i64 0) Try.underlying25 hi hz0 .i64 .i64 n n (Nat.le_refl _) (by rw [hz2]; omega) (by omega) W
    rw [hz1] at hmk
    clear hok hnl
    go_enter Try.func26, Try.ntmps26
    go_wp2_with fail
    refine HO.out.mono ?_
    rintro e w1 ⟨rfl, b1⟩
    have e1 := btrans b0 b1
    have g1 := g0.below b1 g0.lt
    obtain ⟨p0, p1, -, -⟩ := g1.two
    clear HO b0 b1 g0
    go_wp2_with fail
    refine (frontAt_any n (.slice A l.length c) l w1 (H.out.below e1) hl HOK.out.1 hn).mono ?_
    rintro e w2 ⟨bf, Af, cf, rfl, hcf, hnf, b2⟩
    have HE2 := Lib.hid (btrans e1 b2)
    have HF := Lib.hid (And.intro hcf hnf)
    have hown := World.ownsRow_lit (base := w2.heap.size) (e := 3) (size := 1) w2 (madeCells #[Value.int .i64 0] (n * 1)) n (Nat.le_refl _) (by unfold maxLen; omega) (size_madeCells _ _)
    rw [toList_madeCells_one, Nat.mul_one, show List.replicate n (Value.int .i64 0) = cellsI (fszR n l tl 0) from by rw [fszR_zero]; simp [cellsI]] at hown
    have HOWN := Lib.hid hown
    have HB2 := Lib.hid ((Below.refl w2.heap.size w2).alloc (Nat.le_refl _) (.cells (madeCells #[.int .i64 0] n) 3))
    clear b2 hcf hnf e1 g1 hown p0 p1
    simp only [Nat.mul_one] at hmk
    go_wp2_with fail
    clear hmk
    go_loopg [21] n (fun g iv wr => ∃ k : Nat, k + g = n ∧ iv = .int .i64 (k : Int) ∧ wr.ownsRow w2.heap.size 3 1 (.slice (some ⟨w2.heap.size, 0, none⟩) n n) n (cellsI (fszR n l tl k)) ∧ Below w2.heap.size w2 wr)
    case atStart => exact ⟨0, by omega, rfl, HOWN.out, HB2.out⟩
    case round =>
      clear HOWN HB2
      obtain ⟨k, hkg, rfl, hrow, hB⟩ := hrel
      cases gk with
      | zero =>
        obtain rfl : k = n := by omega
        have HR : Hid (wr.ownsRow w.heap.size 3 1 (.slice (some ⟨w2.heap.size, 0, none⟩) (fszK k l tl k).length k) (fszK k l tl k).length (cellsI (fszK k l tl k))) := by
          have h_ := hrow
          rw [fszR_all] at h_
          show World.ownsRow _ _ _ _ _ _ _
          rw [fszK_len]
          exact own_base h_ HE2.out.size
        have HLN := Lib.hid (fszK_len k l tl k)
        have HB := Lib.hid (btrans HE2.out hB)
        clear hrow hB
        go_wp2_with fail
        go_ret2
        have h_ := RetI.yes (l := fszK k l tl k) HOK.out HR.out HB.out
        rw [HLN.out] at h_
        exact h_
      | succ g2 =>
        have hlt : k < n := by omega
        have hlt' : (k : Int) < (n : Int) := by omega
        obtain ⟨x, hx⟩ : ∃ x, tl[k]? = some x := ⟨_, List.getElem?_eq_getElem (by rw [HE.out.1]; exact hlt)⟩
        have hxr := HE.out.range x (List.mem_of_getElem? hx)
        obtain ⟨m, rfl⟩ : ∃ m : Nat, x = (m : Int) := ⟨x.toNat, by omega⟩
        have hmn : m < n := by omega
        obtain ⟨ga, oa, rfl, c0⟩ := HC2.out k _ hx
        have q0 := nearv.cell_keep (nearv.cell_keep c0 HE2.out) hB
        have hkc : k ≤ c2 := by omega
        have hkc' : (k : Int) ≤ (c2 : Int) := by omega
        have hLL : (tl.take k).length ≤ 1048576 := by rw [List.length_take]; omega
        have hTK : ∀ y ∈ tl.take k, 0 ≤ y ∧ y < (n : Int) := fun y hy => HE.out.range y (List.mem_of_mem_take hy)
        have HIT : Hid (Ints wr (.slice (some ⟨ga, oa, none⟩) k c2) (tl.take k)) := by
          have h_ := HU.out
          rw [← HE.out.1] at h_
          exact ints_take ((h_.below HE2.out).below hB) (by rw [HE.out.1]; omega) hkc
        have HBO := Lib.hid (bitsOf_any _ (tl.take k) wr HIT.out hLL (fun y hy => by have := hTK y hy; omega))
        rw [code_gone hTK] at HBO
        have HCL := Lib.hid (frontClo_any n m (goneB (tl.take k)) bf _ l wr (nearv.cell_keep HF.out.1 hB) (HF.out.2.below hB) HOK.out.1 hn hmn)
        rw [← goneB_succ hx] at HCL
        have HSZ : Hid (((nw (frontB l n (goneB (tl.take (k + 1)))) n).length : Int) = fsz n l tl k) := rfl
        have hll := fszR_len n l tl (k := k) (by omega)
        obtain ⟨u0, hu0⟩ : ∃ u, (fszR n l tl k)[k]? = some u := ⟨_, List.getElem?_eq_getElem (by omega)⟩
        have f0 := hrow.cellAt k (by omega)
        rw [cellsI_at hu0] at f0
        have z0 := hrow.frozenAt k
        have HST := Lib.hid (fun (d : Nat) => (own_below hrow (below_drewN (Below.refl wr.heap.size wr) d)).stored k (.int .i64 (fsz n l tl k)))
        have HBB := Lib.hid hB
        have HSS := Lib.hid (fszR_set (n := n) (l := l) (tl := tl) hlt)
        clear hx c0 hTK hLL HIT hu0 hrow hB hll
        generalize (nw (frontB l n (goneB (tl.take (k + 1)))) n).length = fv at *
        go_wp2_with fail
        refine HBO.out.mono ?_
        rintro e w' ⟨rfl, rfl⟩
        go_wp2_with fail
        refine HCL.out.mono ?_
        rintro e w' ⟨rfl, nd, rfl⟩
        go_wp2_with fail
        go_roundg g2
        case measure => omega
        case rel =>
          have h_ := (HST.out nd).1
          rw [cellsI_set, HSS.out, ← HSZ.out] at h_
          exact ⟨k + 1, by omega, by go_num, h_, (below_drewN HBB.out nd).setCell (Nat.le_refl _) _⟩
  · rw [okG_no (show ¬ (P2.Good s l ∧ EachS s.toNat tl) from hok)] at HO
    have HN := Lib.hid hok
    clear hok
    go_enter Try.func26, Try.ntmps26
    go_wp2_with fail
    refine HO.out.mono ?_
    rintro e w1 ⟨rfl, b1⟩
    go_wp2_with fail
    go_ret2
    exact RetI.nil HN.out (btrans b0 b1)
end Go.Proofs.Ytbjcfjgoedpgdaa.fronts
