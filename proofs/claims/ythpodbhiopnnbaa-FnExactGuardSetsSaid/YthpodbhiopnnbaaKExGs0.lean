/- The contract of the program's resultsOf with the nodes of sets. -/
import Derived.Handy
import Derived.Test.YthpodbhiopnnbaaK04
import Derived.Test.YthpodbhiopnnbaaK11
import Derived.Test.YthpodbhiopnnbaaK10
import Derived.Deep.DeepCutAuto
import Derived.Deep.RegionHeld3
import Derived.Lib.SliceRun
import Derived.Deep.QuietTactic
import Derived.Test.YthpodbhiopnnbaaK01
import Derived.Test.YthpodbhiopnnbaaK03
import Derived.Test.YthpodbhiopnnbaaK02
import Derived.Test.YthpodbhiopnnbaaK05
import Derived.Maps.AppendAt
import Derived.Test.YthpodbhiopnnbaaK06
namespace Go.Proofs.Ythpodbhiopnnbaa.ups
open Go.RowKit P2 words edges ints owns good adjs fns sets rets covs bitsI func grid
set_option linter.unusedVariables false

/-- the lists of the nodes of sets -/
def rowN (L : List Nat) : List (List Int) := L.map ndN
theorem rowN_len (L : List Nat) : (rowN L).length = L.length := List.length_map _
theorem rowN_at {L : List Nat} {i c : Nat} (h : L[i]? = some c) : (rowN L)[i]? = some (ndN c) := by simp [rowN, h]
/-- so many rows are done -/
def rowT (L : List Nat) (k : Nat) : List (List Int) := rowN (L.take k) ++ List.replicate (L.length - k) []
theorem rowT_zero (L : List Nat) : rowT L 0 = List.replicate L.length [] := by simp [rowT, rowN]
theorem rowT_all (L : List Nat) : rowT L L.length = rowN L := by simp [rowT]
theorem rowT_len (L : List Nat) {k : Nat} (h : k ≤ L.length) : (rowT L k).length = L.length := by simp [rowT, rowN]; omega
theorem rowT_succ {L : List Nat} {k c : Nat} (h : L[k]? = some c) : (rowT L k).set k (ndN c) = rowT L (k + 1) := by
  have hk := (List.getElem?_eq_some_iff.1 h).1
  have hl : (rowN (L.take k)).length = k := by rw [rowN_len, List.length_take]; omega
  unfold rowT
  obtain ⟨m, hm⟩ : ∃ m, L.length - k = m + 1 := ⟨L.length - k - 1, by omega⟩
  rw [List.set_append, if_neg (by omega), hl, Nat.sub_self, hm, List.replicate_succ, List.set_cons_zero, List.take_add_one, h, show L.length - (k + 1) = m from by omega]
  unfold rowN
  rw [List.map_append, List.append_assoc]
  rfl
set_option maxHeartbeats 4000000 in
set_option maxRecDepth 100000 in
theorem resultsNd_any (u : Value) (L : List Nat) (w : World) (hu : Nums w u L) (hL : ∀ c ∈ L, c < 256) (hl : L.length ≤ 1048576) :
    Calls Try.prog 60 #[u, .func (.func 50) #[] #[]] w fun e w' => ∃ A c us, e = .returned (.slice A L.length c) ∧ OwnG w' w.heap.size (.slice A (rowN L).length c) us (rowN L) ∧ Below w.heap.size w w' := by
  obtain ⟨A, c, rfl, hc⟩ := hu.form
  have HU := Lib.hid hu
  have hent : ∀ (args : Array Value) (W : World), (callFunc 50 args).run Try.prog W = .ok (.enter 50 args) W := fun _ _ => by kernel_rfl
  have HM := Lib.hid (OwnG.made w L.length (by unfold maxLen; omega))
  have HB2 := Lib.hid ((Below.refl w.heap.size w).alloc (Nat.le_refl _) (.cells (madeCells #[.slice none 0 0] (L.length * 1)) 25))
  have HCL := Lib.hid hL
  clear hu hc hL
  obtain ⟨i1, hi1, hy0, hy1, hy2⟩ := info_parts infoRow
  have hmk := fun (W : World) => run_make_rowN (P := Try.prog) 40 25 i1 (.slice none 0 0) Try.underlying40 hi1 hy0 .i64 .i64 L.length L.length (Nat.le_refl _) (by rw [hy2]; omega) (by omega) W
  rw [hy1] at hmk
  rw [Nat.mul_one] at HM HB2
  go_enter Try.func60, Try.ntmps60
  go_wp2_with fail
  go_loopg [6, 7, 13] L.length (fun g _ _ i wr => ∃ (k : Nat) (us : List Value), k + g = L.length ∧ i = .int .i64 (k : Int) ∧ OwnG wr w.heap.size (.slice (some ⟨w.heap.size, 0, none⟩) L.length L.length) us (rowT L k) ∧ Below w.heap.size w wr)
  case atStart => exact ⟨0, _, by omega, rfl, by rw [rowT_zero]; exact HM.out, HB2.out⟩
  case round =>
    clear HM HB2 hmk
    obtain ⟨k, us, hkg, rfl, hG, hB⟩ := hrel
    cases gk with
    | zero =>
      obtain rfl : k = L.length := by omega
      rw [rowT_all] at hG
      have HR := Lib.hid hG
      have HB := Lib.hid hB
      clear hG hB
      go_wp2_with fail
      go_ret
      exact ⟨_, _, us, rfl, by rw [rowN_len]; exact HR.out, HB.out⟩
    | succ g2 =>
      have hlt : k < L.length := by omega
      have hlt' : (k : Int) < (L.length : Int) := by omega
      obtain ⟨x, hx⟩ : ∃ x, L[k]? = some x := ⟨_, List.getElem?_eq_getElem hlt⟩
      have hx8 := HCL.out x (List.mem_of_getElem? hx)
      obtain ⟨_, _, hf2, hcc⟩ := (show Nums wr (.slice A L.length c) L from HU.out.below hB).form
      cases hf2
      obtain ⟨g5, o5, rfl, c5⟩ := hcc k x hx
      have HD := Lib.hid (nodes_any x wr (by omega))
      rw [show nw (bitB x) 8 = ndN x from rfl] at HD
      have HG := Lib.hid hG
      have HB := Lib.hid hB
      have HX := Lib.hid hx
      clear hG hB hx hcc
      go_wp2_with fail
      refine HD.out.mono ?_
      rintro e w3 ⟨A3, c3, rfl, o3, b3⟩
      have hG3 := HG.out.below b3
      have hrl := rowT_len L (k := k) (by omega)
      have h1 := hG3.1
      rw [hrl] at h1
      have hul := hG3.len
      rw [hrl] at hul
      obtain ⟨u0, hu0⟩ : ∃ u, us[k]? = some u := ⟨_, List.getElem?_eq_getElem (by omega)⟩
      have f0 := h1.cellAt k (by omega)
      rw [hu0] at f0
      have z0 := h1.frozenAt k
      have HS : Hid (OwnG (w3.setCell ⟨w.heap.size, k, none⟩ (.slice A3 (ndN x).length c3)) w.heap.size (.slice (some ⟨w.heap.size, 0, none⟩) L.length L.length) (us.set k (.slice A3 (ndN x).length c3)) (rowT L (k + 1))) := by
        have h9 : OwnG w3 w.heap.size (.slice (some ⟨w.heap.size, 0, none⟩) (rowT L k).length L.length) us (rowT L k) := by rw [hrl]; exact hG3
        have hfr := OwnG.fresh HG.out o3
        have := OwnG.store h9 (by rw [hrl]; exact hlt) (own_base o3 HB.out.size) (fun i x b _ hx hb => hfr i x b hx hb)
        rw [rowT_succ HX.out, hrl] at this
        exact this
      have HB3 := Lib.hid (btrans HB.out b3)
      clear hG3 h1 hrl hul hu0 c5
      go_wp2_with fail
      go_roundg g2
      case measure => omega
      case rel => exact ⟨k + 1, _, by omega, by go_num, HS.out, HB3.out.setCell (Nat.le_refl _) _⟩
end Go.Proofs.Ythpodbhiopnnbaa.ups

/- slices.DeleteFunc over a row of sets of the call's own. -/
namespace Go.Proofs.Ythpodbhiopnnbaa.ups
open Go.RowKit P2 words edges ints good adjs fns sets rets covs bitsI func
set_option linter.unusedVariables false

/-- a function value that answers for the elements of a list of words, in every world of a kind -/
structure FnK (K : World → Prop) (f : FuncId) (caps : Array Value) (xs : List Nat) (p : Nat → Bool) : Prop where
  enter : ∀ (args : Array Value) (W : World), (callFunc f args).run Try.prog W = .ok (.enter f args) W
  call : ∀ W, K W → ∀ x ∈ xs, Calls Try.prog f (#[.int .u64 (x : Int)] ++ caps) W fun e W' => e = .returned (.bool (p x)) ∧ Below W.heap.size W W'
/-- what stands wherever a row's block is written to -/
structure Kind (K : World → Prop) (v : Value) : Prop where
  go : ∀ W W', K W → Below W.heap.size W W' → K W'
  set : ∀ g, v.ownBlock = some g → ∀ W j u, K W → K (W.setCell ⟨g, j, none⟩ u)
theorem own_cut {w : World} {B g n c i : Nat} {t : TypeId} {xs : List Value} (h : w.ownsRow B t 1 (.slice (some ⟨g, 0, none⟩) n c) n xs) (hi : i ≤ n) : w.ownsRow B t 1 (.slice (some ⟨g, 0, none⟩) i c) i (xs.take i) := by
  refine ⟨by rw [List.length_take, h.1]; omega, ?_⟩
  rcases h.2 with ⟨h', _⟩ | ⟨g', cap', cur, h', hb, hg, hnc, hcm, hcs, htake⟩
  · simp at h'
  · simp only [Value.slice.injEq, Option.some.injEq, Addr.mk.injEq, and_true, true_and] at h'
    obtain ⟨rfl, rfl⟩ := h'
    exact .inr ⟨g, c, cur, rfl, hb, hg, by omega, hcm, hcs, by rw [← htake, List.take_take]; congr 1; omega⟩
theorem own_setCells {B g n c : Nat} {t : TypeId} : ∀ (vs : List Value) (o : Nat) (w : World) (xs : List Value), w.ownsRow B t 1 (.slice (some ⟨g, 0, none⟩) n c) n xs → ∃ ys, (w.setCells g o vs).ownsRow B t 1 (.slice (some ⟨g, 0, none⟩) n c) n ys ∧ ys.take o = xs.take o
  | [], o, w, xs, h => ⟨xs, h, rfl⟩
  | v :: vs, o, w, xs, h => by
    obtain ⟨ys, h1, h2⟩ := own_setCells vs (o + 1) _ _ (h.stored o v).1
    refine ⟨ys, h1, ?_⟩
    have := congrArg (List.take o) h2
    rw [List.take_take, List.take_take, Nat.min_eq_left (by omega), List.take_set, List.set_eq_of_length_le (by rw [List.length_take]; omega)] at this
    exact this
theorem kind_setCells {K : World → Prop} {g : Nat} (hK : ∀ W j u, K W → K (W.setCell ⟨g, j, none⟩ u)) : ∀ (vs : List Value) (o : Nat) (w : World), K w → K (w.setCells g o vs)
  | [], o, w, h => h
  | v :: vs, o, w, h => kind_setCells hK vs (o + 1) _ (hK w o v h)
/-- the row while what is struck is written over: what is kept of the first j, anything, the rest -/
def DelR (p : Nat → Bool) (xs : List Nat) (i j : Nat) (L : List Nat) : Prop := L.length = xs.length ∧ i ≤ j ∧ L.take i = (xs.take j).filter (fun x => !p x) ∧ L.drop j = xs.drop j
theorem DelR.at_ {p : Nat → Bool} {xs : List Nat} {i j : Nat} {L : List Nat} (h : DelR p xs i j L) (hj : j < xs.length) : L[j]? = xs[j]? := by
  have := congrArg (fun z : List Nat => z[0]?) h.2.2.2
  simpa using this
theorem DelR.skip {p : Nat → Bool} {xs : List Nat} {i j x : Nat} {L : List Nat} (h : DelR p xs i j L) (hx : xs[j]? = some x) (hp : p x = true) : DelR p xs i (j + 1) L :=
  ⟨h.1, by have := h.2.1; omega, by rw [h.2.2.1, List.take_add_one, hx, List.filter_append]; simp [hp], by rw [← List.drop_drop, h.2.2.2, List.drop_drop]⟩
theorem DelR.keep {p : Nat → Bool} {xs : List Nat} {i j x : Nat} {L : List Nat} (h : DelR p xs i j L) (hx : xs[j]? = some x) (hp : p x = false) : DelR p xs (i + 1) (j + 1) (L.set i x) := by
  obtain ⟨h1, h2, h3, h4⟩ := h
  have hj := (List.getElem?_eq_some_iff.1 hx).1
  refine ⟨by simpa using h1, by omega, ?_, ?_⟩
  · have hi : i < L.length := by omega
    rw [show (xs.take (j + 1)) = xs.take j ++ [x] from by rw [List.take_add_one, hx]; rfl, List.filter_append, List.take_add_one, List.getElem?_set_self hi, List.take_set, List.set_eq_of_length_le (by rw [List.length_take]; omega), h3]
    simp [hp]
  · rw [List.drop_set_of_lt (by omega), ← List.drop_drop, h4, List.drop_drop]
theorem DelR.done {p : Nat → Bool} {xs : List Nat} {i j : Nat} {L : List Nat} (h : DelR p xs i j L) (hj : xs.length ≤ j) : L.take i = xs.filter (fun x => !p x) := by
  rw [h.2.2.1, List.take_of_length_le hj]
theorem DelR.first {p : Nat → Bool} {xs : List Nat} {i x : Nat} (hx : xs[i]? = some x) (hp : p x = true) (hf : ∀ j z, j < i → xs[j]? = some z → p z = false) : DelR p xs i (i + 1) xs :=
  ⟨rfl, by omega, by
    rw [List.take_add_one, hx, List.filter_append]
    have : (xs.take i).filter (fun x => !p x) = xs.take i := by
      rw [List.filter_eq_self]
      intro a ha
      obtain ⟨j, hj⟩ := List.getElem?_of_mem ha
      have hji : j < i := by have := (List.getElem?_eq_some_iff.1 hj).1; rw [List.length_take] at this; omega
      rw [List.getElem?_take_of_lt hji] at hj
      rw [hf j a hji hj]; rfl
    rw [this]; simp [hp], rfl⟩
theorem idxF_case {p : Nat → Bool} (xs : List Nat) : (idxF p xs = -1 ∧ xs.filter (fun x => !p x) = xs) ∨ ∃ i x, idxF p xs = ((i : Nat) : Int) ∧ xs[i]? = some x ∧ p x = true ∧ ∀ j z, j < i → xs[j]? = some z → p z = false := by
  by_cases h : ∃ x ∈ xs, p x = true
  · obtain ⟨x, hx, hp⟩ := h
    exact .inr (idxF_some hx hp)
  · left
    have hno : ∀ x ∈ xs, p x = false := fun x hx => by
      cases hp : p x
      · rfl
      · exact absurd ⟨x, hx, hp⟩ h
    refine ⟨?_, List.filter_eq_self.2 fun x hx => by rw [hno x hx]; rfl⟩
    unfold idxF
    rw [List.findIdx?_eq_none_iff.2 hno]
set_option maxHeartbeats 8000000 in
set_option maxRecDepth 100000 in
theorem deleteFuncU_own (B : Nat) (v : Value) (xs : List Nat) (f : FuncId) (caps : Array Value) (p : Nat → Bool) (K : World → Prop) (w : World) (ho : w.ownsRow B 55 1 v xs.length (cellsU xs)) (hxl : xs.length ≤ 1048576) (hK : Kind K v) (h : FnK K f caps xs p) (hw : K w) :
    Calls Try.prog 88 #[v, .func (.func f) #[] caps] w fun e w' => ∃ A c, e = .returned (.slice A (xs.filter fun x => !p x).length c) ∧ w'.ownsRow B 55 1 (.slice A (xs.filter fun x => !p x).length c) (xs.filter fun x => !p x).length (cellsU (xs.filter fun x => !p x)) ∧ (Value.slice A (xs.filter fun x => !p x).length c).ownBlock = v.ownBlock ∧ K w' := by
  obtain ⟨A, c, rfl⟩ := own_form ho
  have hent := h.enter
  have HIX := Lib.hid (indexFuncU_any (.slice A xs.length c) xs f caps p w (Reads.of_own ho) hxl { enter := h.enter, call := fun W hW x hx => h.call W (hK.go w W hw hW) x hx })
  have HF := Lib.hid h.call
  have HGO := Lib.hid hK.go
  rcases idxF_case (p := p) xs with ⟨hi, hfe⟩ | ⟨i0, x0, hi, hx0, hp0, hf0⟩
  · rw [hi] at HIX
    rw [hfe]
    have HO := Lib.hid ho
    have HW := Lib.hid hw
    clear h hK hw ho hi hfe
    go_enter Try.func88, Try.ntmps88
    go_wp2_with fail
    refine HIX.out.mono ?_
    rintro e w1 ⟨rfl, b1⟩
    go_wp2_with fail
    go_ret
    exact ⟨A, c, rfl, own_below HO.out b1, rfl, HGO.out _ _ HW.out b1⟩
  · rw [hi] at HIX
    have hi0 := (List.getElem?_eq_some_iff.1 hx0).1
    obtain ⟨g, rfl, hnc⟩ : ∃ g, A = some ⟨g, 0, none⟩ ∧ xs.length ≤ c := by
      rcases ho.2 with ⟨_, h2⟩ | ⟨g, cap, cur, hv, _, _, hnc, _⟩
      · omega
      · cases hv; exact ⟨g, rfl, hnc⟩
    have HST := Lib.hid (hK.set g rfl)
    have HO := Lib.hid ho
    have HW := Lib.hid hw
    have HD0 := Lib.hid (DelR.first hx0 hp0 hf0)
    have hne1 : ((i0 : Int) == -1) = false := beq_eq_false_iff_ne.2 (by omega)
    clear h hK hw ho hi hx0 hp0 hf0
    go_enter Try.func88, Try.ntmps88
    go_wp2_with fail
    refine HIX.out.mono ?_
    rintro e w1 ⟨rfl, b1⟩
    have HO1 := Lib.hid (own_below HO.out b1)
    have HW1 := Lib.hid (HGO.out _ _ HW.out b1)
    clear b1 HO HW HIX
    go_wp2_with fail
    go_loopg [5, 6, 7] (xs.length - (i0 + 1)) (fun gg s5 s6 s7 wr => ∃ (i j : Nat) (L : List Nat), s5 = .int .i64 (i : Int) ∧ s6 = .int .i64 (j : Int) ∧ j + gg = xs.length ∧ i < j ∧ Hid (DelR p xs i j L) ∧ wr.ownsRow B 55 1 (.slice (some ⟨g, 0, none⟩) xs.length c) xs.length (cellsU L) ∧ Hid (K wr))
    case atStart => exact ⟨i0, i0 + 1, xs, rfl, by go_num, by omega, by omega, HD0, HO1.out, HW1⟩
    case round =>
      clear HD0 HO1 HW1
      obtain ⟨i, j, L, rfl, rfl, hjg, hij, hdl, hrow, hkw⟩ := hrel
      have hLl := hdl.out.1
      cases gk with
      | zero =>
        obtain rfl : j = xs.length := by omega
        have hin : i < xs.length := hij
        have hci : ¬ c = i := by omega
        have hci2 : (c == i) = false := beq_eq_false_iff_ne.2 hci
        have HFI := Lib.hid (hdl.out.done (Nat.le_refl _))
        have hcl : ∀ ty, (Builtin.clear_ #[57] ty #[.slice (some ⟨g, i, none⟩) (xs.length - i) (c - i)]).run Try.prog wr = .ok (.tuple #[]) (wr.setCells g i (List.replicate (xs.length - i) (.int .u64 0))) :=
          fun ty => Lib.run_clear_slice wr _ 55 ty (.int .u64 0) Try.underlying57 (by intro w; rfl) rfl rfl g i _ _ (by omega) (fun k hk => by rw [hrow.cellAt (i + k) (by omega)]; rw [show (cellsU L)[i + k]? = some ((cellsU L)[i + k]'(by rw [cellsU_len]; omega)) from List.getElem?_eq_getElem _]; rfl) (fun k hk => hrow.frozenAt _)
        obtain ⟨ys, hown, hys⟩ := own_setCells (List.replicate (xs.length - i) (.int .u64 0)) i wr (cellsU L) hrow
        have hcut := own_cut hown (Nat.le_of_lt hin)
        rw [hys, show (cellsU L).take i = cellsU (L.take i) from (List.map_take).symm, HFI.out] at hcut
        have HKN := Lib.hid (kind_setCells HST.out (List.replicate (xs.length - i) (.int .u64 0)) i wr hkw.out)
        have HIL : Hid ((xs.filter fun x => !p x).length = i) := by
          show _ = _
          rw [← HFI.out, List.length_take]; omega
        have HCUT := Lib.hid hcut
        clear hrow hdl hLl hown hys hcut
        go_wp2_with fail
        go_ret
        rw [HIL.out]
        exact ⟨_, c, rfl, HCUT.out, rfl, HKN.out⟩
      | succ g2 =>
        have hlt : j < xs.length := by omega
        have hlt' : (j : Int) < (xs.length : Int) := by omega
        obtain ⟨x, hx⟩ : ∃ x, xs[j]? = some x := ⟨_, List.getElem?_eq_getElem hlt⟩
        have f0 := hrow.cellAt j (by omega)
        rw [cellsU_at ((hdl.out.at_ hlt).trans hx)] at f0
        have HC := Lib.hid (HF.out wr hkw.out x (List.mem_of_getElem? hx))
        have HROW := Lib.hid hrow
        cases hp : p x with
        | true =>
          have HN := Lib.hid (hdl.out.skip hx hp)
          rw [hp] at HC
          clear hx hp hrow hLl
          go_wp2_with fail
          refine HC.out.mono ?_
          rintro e w2 ⟨rfl, b2⟩
          have HO2 := Lib.hid (own_below HROW.out b2)
          have HW2 := Lib.hid (HGO.out _ _ hkw.out b2)
          clear b2 f0
          go_wp2_with fail
          go_roundg g2
          case measure => omega
          case rel => exact ⟨i, j + 1, L, rfl, by go_num, by omega, by omega, HN, HO2.out, HW2⟩
        | false =>
          have HN := Lib.hid (hdl.out.keep hx hp)
          rw [hp] at HC
          have hii : i < xs.length := by omega
          have hii' : (i : Int) < (xs.length : Int) := by omega
          obtain ⟨y, hy⟩ : ∃ y, L[i]? = some y := ⟨_, List.getElem?_eq_getElem (by omega)⟩
          have HY := Lib.hid (cellsU_at hy)
          clear hx hp hy hrow hLl
          go_wp2_with fail
          refine HC.out.mono ?_
          rintro e w2 ⟨rfl, b2⟩
          have hrow2 := own_below HROW.out b2
          have HW2 := Lib.hid (HGO.out _ _ hkw.out b2)
          have f1 := hrow2.cellAt i (by omega)
          rw [HY.out] at f1
          have z1 := hrow2.frozenAt i
          have hst := (hrow2.stored i (.int .u64 (x : Int))).1
          rw [cellsU_set] at hst
          have HST2 := Lib.hid hst
          have HK2 := Lib.hid (HST.out w2 i (.int .u64 (x : Int)) HW2.out)
          clear b2 f0 hst hrow2
          go_wp2_with fail
          go_roundg g2
          case measure => omega
          case rel => exact ⟨i + 1, j + 1, L.set i x, by go_num, by go_num, by omega, by omega, HN, HST2.out, HK2⟩
end Go.Proofs.Ythpodbhiopnnbaa.ups

/- All lists of so many elements of a list, in order: mathematics. -/
namespace Go.Proofs.Ythpodbhiopnnbaa.ups
open Go.RowKit P2 words edges ints good adjs fns sets rets covs bitsI
set_option linter.unusedVariables false

/-- the lists of d elements of a list, in order -/
def chL : List Int → Nat → List (List Int)
  | _, 0 => [[]]
  | [], _ + 1 => []
  | x :: r, d + 1 => (chL r d).map (x :: ·) ++ chL r (d + 1)
theorem chL_len : ∀ (xs : List Int) (d : Nat), (chL xs d).length ≤ 2 ^ xs.length
  | xs, 0 => by unfold chL; exact Nat.one_le_two_pow
  | [], _ + 1 => by unfold chL; simp
  | x :: r, d + 1 => by
    unfold chL
    rw [List.length_append, List.length_map, List.length_cons, Nat.pow_succ]
    have := chL_len r d
    have := chL_len r (d + 1)
    omega
theorem chL_row : ∀ (xs : List Int) (d : Nat) (r : List Int), r ∈ chL xs d → r.length = d
  | xs, 0, r, h => by unfold chL at h; simp at h; subst h; rfl
  | [], _ + 1, r, h => by unfold chL at h; simp at h
  | x :: xs, d + 1, r, h => by
    unfold chL at h
    rcases List.mem_append.1 h with h | h
    · obtain ⟨q, hq, rfl⟩ := List.mem_map.1 h
      rw [List.length_cons, chL_row xs d q hq]
    · exact chL_row xs (d + 1) r h
theorem chL_short : ∀ (xs : List Int) (d : Nat), xs.length < d → chL xs d = []
  | xs, 0, h => by omega
  | [], _ + 1, h => by unfold chL; rfl
  | x :: xs, d + 1, h => by
    rw [List.length_cons] at h
    unfold chL
    rw [chL_short xs d (by omega), chL_short xs (d + 1) (by omega)]; rfl
theorem chL_drop {xs : List Int} {i : Nat} {x : Int} (h : xs[i]? = some x) (d : Nat) : chL (xs.drop i) (d + 1) = (chL (xs.drop (i + 1)) d).map (x :: ·) ++ chL (xs.drop (i + 1)) (d + 1) := by
  obtain ⟨h1, h2⟩ := List.getElem?_eq_some_iff.1 h
  rw [List.drop_eq_getElem_cons h1, h2]
  rfl
theorem take_cons {Ls : List (List Int)} {j : Nat} {L : List Int} (x : Int) (h : Ls[j]? = some L) : (Ls.take (j + 1)).map (x :: ·) = (Ls.take j).map (x :: ·) ++ [x :: L] := by
  rw [List.take_add_one, h, List.map_append]; rfl
/-- the sets of k of n nodes, in order -/
def setsK (n k : Nat) : List Nat := (setsN n k).filter (fun x => !decide (onesN x < k))
theorem chL_sets : ∀ n : Fin 9, ∀ k : Fin 9, chL (allN n.1) k.1 = rowN (setsK n.1 k.1) := by decide +kernel
theorem setsK_mem {n k c : Nat} (hn : n ≤ 8) (hk : k ≤ 8) : c ∈ setsK n k ↔ c < 2 ^ n ∧ onesN c = k := by
  unfold setsK
  rw [List.mem_filter, mem_sets hn hk]
  simp
  omega
theorem setsK_len {n k : Nat} (hn : n ≤ 8) (hk : k ≤ 8) : (setsK n k).length ≤ 256 := Nat.le_trans (List.length_filter_le _ _) (sets_len hn hk)
end Go.Proofs.Ythpodbhiopnnbaa.ups

/- The contract of the program's setsOf. -/
namespace Go.Proofs.Ythpodbhiopnnbaa.ups
open Go.RowKit P2 words edges ints owns good adjs fns sets rets covs bitsI func
set_option linter.unusedVariables false

set_option maxHeartbeats 1000000 in
set_option maxRecDepth 100000 in
theorem setsOfClo_any (k d b1 : Nat) (w : World) (h1 : w.cell? ⟨b1, 0, none⟩ = some (.int .i64 (k : Int))) (hd : d < 256) :
    Calls Try.prog 89 #[.int .u64 (d : Int), .pointer (some ⟨b1, 0, none⟩)] w fun e w' => e = .returned (.bool (decide (onesN d < k))) ∧ Below w.heap.size w w' := by
  have HCT := Lib.hid (fun (nq : Nat) => count_any d (w.drewN nq) hd)
  have HV : Hid (decide ((onesN d : Int) < (k : Int)) = decide (onesN d < k)) := by
    show _ = _
    rw [decide_eq_decide]; omega
  go_enter Try.func89, Try.ntmps89
  go_wp2_with fail
  go_quiet (first | (go_at_call 80; exact quiet_left (HCT.out _)))
  go_wp2_with fail
  go_ret
  exact ⟨ret_bool (by first | rfl | exact HV.out), below_drewN (Below.refl _ _) _⟩
set_option maxHeartbeats 2000000 in
set_option maxRecDepth 100000 in
theorem setsOf_own (n k : Nat) (w : World) (hn : n ≤ 8) (hk : k ≤ 8) :
    Calls Try.prog 65 #[.int .i64 (n : Int), .int .i64 (k : Int)] w fun e w' => ∃ A c, e = .returned (.slice A (setsK n k).length c) ∧ w'.ownsRow w.heap.size 55 1 (.slice A (setsK n k).length c) (setsK n k).length (cellsU (setsK n k)) ∧ Below w.heap.size w w' := by
  have hmf : ∀ (fn : Fn) (first cap : Array Value) (w : World), (Instr.makeFunc fn first cap).run Try.prog w = .ok (.func fn first cap) w := fun _ _ _ _ => rfl
  have b0 : Below w.heap.size w (w.alloc (.cells #[.int .i64 (k : Int)] 3)) := (Below.refl _ _).alloc (Nat.le_refl _) _
  have g0 := Blk.new w 3 #[.int .i64 (k : Int)]
  have p0 := g0.cell 0
  have HSU := Lib.hid (setsUpTo_own n k (w.alloc (.cells #[.int .i64 (k : Int)] 3)) hn hk)
  have HB0 := Lib.hid b0
  have HG0 := Lib.hid g0
  have hsl := sets_len hn hk
  have HM8 : Hid (∀ c ∈ setsN n k, c < 256) := fun c hc => Nat.lt_of_lt_of_le ((mem_sets hn hk).1 hc).1 (pow_le hn)
  have hz1 : (w.alloc (.cells #[.int .i64 (k : Int)] 3)).heap.size = w.heap.size + 1 := World.size_alloc _ _
  clear b0 g0
  have HZ1 := Lib.hid hz1
  clear hz1
  go_enter Try.func65, Try.ntmps65
  go_wp2_with fail
  refine HSU.out.mono ?_
  rintro e w2 ⟨A2, c2, rfl, o2, b2⟩
  have hg2 := HG0.out.below b2 HG0.out.lt
  have HDEL := Lib.hid (deleteFuncU_own w.heap.size (.slice A2 (setsN n k).length c2) (setsN n k) 89 #[.pointer (some ⟨w.heap.size, 0, none⟩)] (fun x => decide (onesN x < k)) (fun W => Below (w.heap.size + 1) w2 W ∧ w2.heap.size ≤ W.heap.size) w2 (own_base o2 (by rw [HZ1.out]; omega)) (by omega)
    { go := fun W W' h1 h2 => ⟨h1.1.trans (h2.mono (by have := b2.size; rw [HZ1.out] at this; have := h1.2; omega)), Nat.le_trans h1.2 h2.size⟩
      set := fun g hg W j u h => ⟨h.1.setCell (p := ⟨g, j, none⟩) (by have := (o2.lt g hg).1; rw [HZ1.out] at this; exact this) u, by simpa using h.2⟩ }
    { enter := fun _ _ => by kernel_rfl
      call := fun W hW x hx => setsOfClo_any k x w.heap.size W ((hW.1.cell (p := ⟨w.heap.size, 0, none⟩) (Nat.lt_succ_self _)).trans (hg2.cell 0)) (HM8.out x hx) } ⟨Below.refl _ _, Nat.le_refl _⟩)
  have hb2 := btrans HB0.out b2
  have HB2 := Lib.hid hb2
  have p1 := hg2.cell 0
  clear hb2 o2 b2 hg2 p0
  go_wp2_with fail
  refine HDEL.out.mono ?_
  rintro e w3 ⟨A3, c3, rfl, o3, -, hk3⟩
  go_wp2_with fail
  go_ret
  exact ⟨A3, c3, rfl, o3, HB2.out.trans (hk3.1.mono (by omega))⟩
end Go.Proofs.Ythpodbhiopnnbaa.ups

/- Guards: the contracts of the program's hasGuards and GuardSets. -/
namespace Go.Proofs.Ythpodbhiopnnbaa.ups
open Go.RowKit P2 words edges ints owns good adjs fns sets rets covs bitsI func grid gridl
set_option linter.unusedVariables false

/-- a valid Graph and a number of guards in it -/
def GrdOk (s : Int) (l : List Ed) (k : Int) : Prop := P2.Good s l ∧ 0 ≤ k ∧ k ≤ s
def gsL (s k : Int) : List (List Int) := rowN (setsK s.toNat k.toNat)
theorem gs_len (s k : Int) (l : List Ed) : gridl.tot (gdG (GrdOk s l k) (gsL s k)) ≤ 1048576 ∧ (gdG (GrdOk s l k) (gsL s k)).length ≤ 1048576 := by
  by_cases h : GrdOk s l k
  · rw [gdG_yes h]
    have h8 := h.1.2.1
    have hk := h.2.2
    have h1 := setsK_len (n := s.toNat) (k := k.toNat) (by omega) (by omega)
    have h2 : ∀ r ∈ gsL s k, r.length ≤ 8 := fun r hr => by
      obtain ⟨c, hc, rfl⟩ := List.mem_map.1 hr
      exact nw_len _ _
    have h3 : gridl.tot (gsL s k) ≤ (gsL s k).length * 8 := by
      unfold gridl.tot
      generalize gsL s k = rows at h2 ⊢
      induction rows with
      | nil => simp
      | cons r rs ih =>
        have := ih (fun r hr => h2 r (List.mem_cons_of_mem _ hr))
        have := h2 r List.mem_cons_self
        simp only [List.map_cons, List.sum_cons, List.length_cons]
        omega
    have h4 : (gsL s k).length = (setsK s.toNat k.toNat).length := rowN_len _
    omega
  · rw [gdG_no h]; simp [gridl.tot]
set_option maxHeartbeats 2000000 in
set_option maxRecDepth 100000 in
theorem hasGuards_any (s k : Int) (v : Value) (l : List Ed) (w : World) (h : Edges w v l) (hl : l.length ≤ 1048576) :
    Calls Try.prog 64 #[.agg #[.int .i64 s, v], .int .i64 k] w fun e w' => e = .returned (.bool (okG (GrdOk s l k))) ∧ Below w.heap.size w w' := by
  obtain ⟨A, c, rfl, -⟩ := h.form
  have b0 : Below w.heap.size w (w.alloc (.cells #[.int .i64 s, .slice A l.length c] 29)) := (Below.refl _ _).alloc (Nat.le_refl _) _
  have g0 := Blk.new w 29 #[.int .i64 s, .slice A l.length c]
  obtain ⟨p0, p1, -, -⟩ := g0.two
  have HN := Lib.hid (implIsGraph_any s _ l _ (h.below b0) hl)
  have HB0 := Lib.hid b0
  have HG0 := Lib.hid g0
  clear h b0 g0
  by_cases hgd : P2.Good s l
  · rw [goodB_yes hgd] at HN
    have HV : Hid (okG (GrdOk s l k) = (decide (0 ≤ k) && decide (k ≤ s))) := by
      show _ = _
      rw [Bool.eq_iff_iff, okG_iff, Bool.and_eq_true, decide_eq_true_iff, decide_eq_true_iff]
      exact ⟨fun h => h.2, fun h => ⟨hgd, h⟩⟩
    clear hgd
    by_cases h1 : 0 ≤ k
    · by_cases h2 : k ≤ s
      · have HV2 : Hid (okG (GrdOk s l k) = true) := by show _ = _; rw [HV.out, decide_eq_true h1, decide_eq_true h2]; rfl
        go_enter Try.func64, Try.ntmps64
        go_wp2_with fail
        refine HN.out.mono ?_
        rintro e w1 ⟨rfl, b1⟩
        have HB1 := Lib.hid (btrans HB0.out b1)
        have hg1 := HG0.out.below b1 HG0.out.lt
        clear p0 p1
        obtain ⟨p0, p1, -, -⟩ := hg1.two
        clear b1 hg1
        go_wp2_with fail
        go_ret
        rw [HV2.out]
        exact ⟨rfl, HB1.out⟩
      · have HV2 : Hid (okG (GrdOk s l k) = false) := by show _ = _; rw [HV.out, decide_eq_true h1, decide_eq_false h2]; rfl
        go_enter Try.func64, Try.ntmps64
        go_wp2_with fail
        refine HN.out.mono ?_
        rintro e w1 ⟨rfl, b1⟩
        have HB1 := Lib.hid (btrans HB0.out b1)
        have hg1 := HG0.out.below b1 HG0.out.lt
        clear p0 p1
        obtain ⟨p0, p1, -, -⟩ := hg1.two
        clear b1 hg1
        go_wp2_with fail
        go_ret
        rw [HV2.out]
        exact ⟨ret_bool (decide_eq_false (by omega)), HB1.out⟩
    · have HV2 : Hid (okG (GrdOk s l k) = false) := by show _ = _; rw [HV.out, decide_eq_false h1]; rfl
      go_enter Try.func64, Try.ntmps64
      go_wp2_with fail
      refine HN.out.mono ?_
      rintro e w1 ⟨rfl, b1⟩
      have HB1 := Lib.hid (btrans HB0.out b1)
      clear p0 p1 b1
      go_wp2_with fail
      go_ret
      rw [HV2.out]
      exact ⟨rfl, HB1.out⟩
  · rw [goodB_no hgd] at HN
    have HV2 : Hid (okG (GrdOk s l k) = false) := okG_no fun h => hgd h.1
    clear hgd
    go_enter Try.func64, Try.ntmps64
    go_wp2_with fail
    refine HN.out.mono ?_
    rintro e w1 ⟨rfl, b1⟩
    have HB1 := Lib.hid (btrans HB0.out b1)
    clear p0 p1 b1
    go_wp2_with fail
    go_ret
    rw [HV2.out]
    exact ⟨rfl, HB1.out⟩
set_option maxHeartbeats 2000000 in
set_option maxRecDepth 100000 in
theorem implGs_any (s k : Int) (v : Value) (l : List Ed) (w : World) (h : Edges w v l) (hl : l.length ≤ 1048576) :
    Calls Try.prog 33 #[.agg #[.int .i64 s, v], .int .i64 k] w (RetGr w (GrdOk s l k) (gsL s k)) := by
  obtain ⟨A, c, rfl, -⟩ := h.form
  have hmf : ∀ (fn : Fn) (first cap : Array Value) (w : World), (Instr.makeFunc fn first cap).run Try.prog w = .ok (.func fn first cap) w := fun _ _ _ _ => rfl
  have b0 : Below w.heap.size w (w.alloc (.cells #[.int .i64 s, .slice A l.length c] 29)) := (Below.refl _ _).alloc (Nat.le_refl _) _
  have g0 := Blk.new w 29 #[.int .i64 s, .slice A l.length c]
  obtain ⟨p0, p1, -, -⟩ := g0.two
  have HN := Lib.hid (hasGuards_any s k _ l _ (h.below b0) hl)
  have HB0 := Lib.hid b0
  have HG0 := Lib.hid g0
  clear h b0 g0
  by_cases hok : GrdOk s l k
  · rw [okG_yes hok] at HN
    have HOK := Lib.hid hok
    have h0 := hok.1.1
    have h8 := hok.1.2.1
    have hk0 := hok.2.1
    have hks := hok.2.2
    obtain ⟨n, rfl⟩ : ∃ n : Nat, s = (n : Int) := ⟨s.toNat, by omega⟩
    obtain ⟨m, rfl⟩ : ∃ m : Nat, k = (m : Int) := ⟨k.toNat, by omega⟩
    have HV : Hid (gsL (n : Int) (m : Int) = rowN (setsK n m)) := by show _ = _; unfold gsL; rw [Int.toNat_natCast, Int.toNat_natCast]
    have hn : n ≤ 8 := by omega
    have hm : m ≤ 8 := by omega
    clear hok
    go_enter Try.func33, Try.ntmps33
    go_wp2_with fail
    refine HN.out.mono ?_
    rintro e w1 ⟨rfl, b1⟩
    have HE1 := Lib.hid (btrans HB0.out b1)
    have HG1 := Lib.hid (HG0.out.below b1 HG0.out.lt)
    clear p0 p1 b1 HN HB0 HG0
    obtain ⟨p0, p1, -, -⟩ := HG1.out.two
    go_wp2_with fail
    refine (setsOf_own n m w1 hn hm).mono ?_
    rintro e w2 ⟨A2, c2, rfl, o2, b2⟩
    have HE2 := Lib.hid (btrans HE1.out b2)
    have HRS := Lib.hid (resultsNd_any _ (setsK n m) w2 (show Nums w2 _ _ from Reads.of_own o2) (fun c hc => Nat.lt_of_lt_of_le ((setsK_mem hn hm).1 hc).1 (pow_le hn)) (by have := setsK_len hn hm; omega))
    clear o2 b2 p0 p1
    go_wp2_with fail
    refine HRS.out.mono ?_
    rintro e w3 ⟨A3, c3, us, rfl, o3, b3⟩
    go_wp2_with fail
    go_ret2
    rw [HV.out]
    have o4 := o3.base HE2.out.size
    rw [← rowN_len (setsK n m)]
    exact RetGr.yes HOK.out o4 (btrans HE2.out b3)
  · rw [okG_no hok] at HN
    have HNO := Lib.hid hok
    clear hok
    go_enter Try.func33, Try.ntmps33
    go_wp2_with fail
    refine HN.out.mono ?_
    rintro e w1 ⟨rfl, b1⟩
    have HE1 := Lib.hid (btrans HB0.out b1)
    clear p0 p1 b1
    go_wp2_with fail
    go_ret2
    exact RetGr.nil HNO.out HE1.out
end Go.Proofs.Ythpodbhiopnnbaa.ups

/- The lists of cops, by their first nodes and by their last ones. It imports nothing of the program. -/
namespace Go.Proofs.Ythpodbhiopnnbaa.lists
set_option linter.unusedVariables false

def castL (L : List Nat) : List Int := L.map fun x : Nat => (x : Int)
theorem castL_len (L : List Nat) : (castL L).length = L.length := by simp [castL]
theorem castL_cons (x : Nat) (L : List Nat) : castL (x :: L) = (x : Int) :: castL L := rfl
theorem castL_snoc (L : List Nat) (x : Nat) : castL (L ++ [x]) = castL L ++ [(x : Int)] := by simp [castL]
theorem castL_at {L : List Nat} {k x : Nat} (h : L[k]? = some x) : (castL L)[k]? = some (x : Int) := by simp [castL, h]
/-- f, f + 1, .., x - 1 -/
def upL (f x : Nat) : List Nat := List.range' f (x - f)
theorem upL_nil (f : Nat) : upL f f = [] := by simp [upL]
theorem upL_succ {f x : Nat} (h : f ≤ x) : upL f (x + 1) = upL f x ++ [x] := by
  unfold upL
  rw [show x + 1 - f = (x - f) + 1 from by omega, List.range'_1_concat, show f + (x - f) = x from by omega]
theorem upL_mem {f x y : Nat} : y ∈ upL f x ↔ f ≤ y ∧ y < x := by
  unfold upL
  rw [List.mem_range'_1]
  omega
theorem upL_len (f x : Nat) : (upL f x).length = x - f := by simp [upL]
/-- all lists of k nodes of f, .., n - 1, in order -/
def listsN (n : Nat) : Nat → Nat → List (List Nat)
  | 0, _ => [[]]
  | k + 1, f => (upL f n).flatMap fun x => (listsN n k x).map (x :: ·)
def outK (n k f x : Nat) : List (List Nat) := (upL f x).flatMap fun y => (listsN n k y).map (y :: ·)
theorem outK_nil (n k f : Nat) : outK n k f f = [] := by unfold outK; rw [upL_nil]; rfl
theorem outK_all (n k f : Nat) : outK n k f n = listsN n (k + 1) f := rfl
theorem outK_succ {n k f x : Nat} (h : f ≤ x) : outK n k f (x + 1) = outK n k f x ++ (listsN n k x).map (x :: ·) := by
  unfold outK; rw [upL_succ h, List.flatMap_append]; simp
theorem flatMap_le {α β : Type} {M : Nat} {F : α → List β} : ∀ (L : List α), (∀ a ∈ L, (F a).length ≤ M) → (L.flatMap F).length ≤ L.length * M
  | [], _ => by simp
  | a :: L, h => by
    rw [List.flatMap_cons, List.length_append, List.length_cons, Nat.succ_mul]
    have h1 := h a List.mem_cons_self
    have h2 := flatMap_le L fun b hb => h b (List.mem_cons_of_mem _ hb)
    omega
theorem lists_len {n : Nat} (hn : n ≤ 8) : ∀ k f, (listsN n k f).length ≤ 8 ^ k
  | 0, f => by simp [listsN]
  | k + 1, f => by
    have h := flatMap_le (M := 8 ^ k) (F := fun x => (listsN n k x).map (x :: ·)) (upL f n) fun a _ => by rw [List.length_map]; exact lists_len hn k a
    rw [upL_len] at h
    have h2 : (n - f) * 8 ^ k ≤ 8 * 8 ^ k := Nat.mul_le_mul_right _ (by omega)
    rw [Nat.pow_succ, Nat.mul_comm (8 ^ k) 8]
    exact Nat.le_trans h h2
theorem out_len {n : Nat} (hn : n ≤ 8) {k f x : Nat} (hx : x ≤ n) : (outK n k f x).length ≤ 8 * 8 ^ k := by
  have h := flatMap_le (M := 8 ^ k) (F := fun x => (listsN n k x).map (x :: ·)) (upL f x) fun a _ => by rw [List.length_map]; exact lists_len hn k a
  rw [upL_len] at h
  exact Nat.le_trans h (Nat.mul_le_mul_right _ (by omega))
/-- each has k nodes -/
theorem lists_mem {n : Nat} : ∀ (k f : Nat) (L : List Nat), L ∈ listsN n k f → L.length = k ∧ ∀ x ∈ L, f ≤ x ∧ x < n
  | 0, f, L, h => by
    have : L = [] := by simpa [listsN] using h
    subst this
    exact ⟨rfl, fun x hx => by simp at hx⟩
  | k + 1, f, L, h => by
    obtain ⟨x, hx, h2⟩ := List.mem_flatMap.1 (show L ∈ (upL f n).flatMap _ from h)
    obtain ⟨M, hM, rfl⟩ := List.mem_map.1 h2
    obtain ⟨h3, h4⟩ := lists_mem k x M hM
    have hx2 := upL_mem.1 hx
    refine ⟨by simp [h3], fun y hy => ?_⟩
    rcases List.mem_cons.1 hy with rfl | hy
    · exact hx2
    · have := h4 y hy; omega
/-- the last node, f if there is none -/
def lastD (f : Nat) (L : List Nat) : Nat := L.getLast?.getD f
theorem last_cons (f x : Nat) (L : List Nat) : lastD f (x :: L) = lastD x L := by
  unfold lastD
  cases L with
  | nil => rfl
  | cons y L => simp [List.getLast?_eq_some_getLast]
/-- a list's longer ones -/
def extL (n f : Nat) (L : List Nat) : List (List Nat) := (upL (lastD f L) n).map fun x => L ++ [x]
theorem flatMap_one {α β : Type} {g : α → β} : ∀ L : List α, L.flatMap (fun x => [g x]) = L.map g
  | [] => rfl
  | a :: L => by rw [List.flatMap_cons, List.map_cons, flatMap_one L]; rfl
theorem lists_snoc (n : Nat) : ∀ k f, listsN n (k + 1) f = (listsN n k f).flatMap (extL n f)
  | 0, f => by
    show (upL f n).flatMap (fun x => (listsN n 0 x).map (x :: ·)) = [[]].flatMap (extL n f)
    show (upL f n).flatMap (fun x => [[x]]) = ((upL f n).map fun x => [] ++ [x]) ++ []
    rw [List.append_nil, flatMap_one]
    rfl
  | k + 1, f => by
    show (upL f n).flatMap (fun x => (listsN n (k + 1) x).map (x :: ·)) = ((upL f n).flatMap fun x => (listsN n k x).map (x :: ·)).flatMap (extL n f)
    rw [List.flatMap_assoc]
    congr 1
    funext x
    rw [lists_snoc n k x, List.map_flatMap, List.flatMap_map]
    congr 1
    funext L
    unfold extL
    rw [last_cons, List.map_map]
    rfl
end Go.Proofs.Ythpodbhiopnnbaa.lists

/- The contract of the program's listsFrom. -/
namespace Go.Proofs.Ythpodbhiopnnbaa.lists
open Go.RowKit P2 words edges ints good adjs fns sets rets apps gridr grid
set_option linter.unusedVariables false

/-- the rows of a table of lists -/
def rowsN (Ls : List (List Nat)) : List (List Int) := Ls.map castL
theorem rowsN_len (Ls : List (List Nat)) : (rowsN Ls).length = Ls.length := by simp [rowsN]
theorem rowsN_app (Ls Ms : List (List Nat)) : rowsN (Ls ++ Ms) = rowsN Ls ++ rowsN Ms := by simp [rowsN]
theorem rowsN_at {Ls : List (List Nat)} {k : Nat} {L : List Nat} (h : Ls[k]? = some L) : (rowsN Ls)[k]? = some (castL L) := by simp [rowsN, h]
/-- a table of lists of the call's own -/
def RetL (w : World) (Ls : List (List Nat)) (e : Ending) (w' : World) : Prop :=
  ∃ A c us, e = .returned (.slice A (rowsN Ls).length c) ∧ OwnG w' w.heap.size (.slice A (rowsN Ls).length c) us (rowsN Ls) ∧ Below w.heap.size w w'
theorem take_succ_map {Ls : List (List Nat)} {j : Nat} {L : List Nat} (x : Nat) (h : Ls[j]? = some L) : (Ls.take (j + 1)).map (x :: ·) = (Ls.take j).map (x :: ·) ++ [x :: L] := by
  rw [List.take_add_one, h, List.map_append]; rfl
theorem grid_one (w : World) (L : List Nat) (hL : L = []) : OwnG (w.alloc (.cells #[.slice none 0 0] 25)) w.heap.size (.slice (some ⟨w.heap.size, 0, none⟩) 1 1) [.slice none 0 0] (rowsN [L]) := by
  subst hL
  refine ⟨World.ownsRow_lit (size := 1) w #[.slice none 0 0] 1 (Nat.le_refl _) (by unfold maxLen; omega) rfl, ?_, ?_⟩
  · intro i u r hu hr
    cases i with
    | zero => cases hu; cases hr; exact World.ownsRow_nil _ _ _ _
    | succ i => simp at hu
  · intro i j u u' k hij hu hu'
    cases j with
    | zero => omega
    | succ j => simp at hu'

/-- a table is kept where another one grows -/
theorem keepG {w w' : World} {B B9 n9 : Nat} {v lw : Value} {us xs9 : List Value} {rows : List (List Int)} (h : OwnG w B v us rows) (hl : w.ownsRow B9 25 1 lw n9 xs9) (hs : ∀ b, v.ownBlock = some b → lw.ownBlock ≠ some b) (hg : w.grownBy w' lw.ownBlock) : OwnG w' B v us rows := by
  refine ⟨h.1.kept hg ?_, fun i u r hu hr => (h.2.1 i u r hu hr).kept hg ?_, h.2.2⟩
  · cases hv : v.ownBlock with
    | none => exact .inl rfl
    | some b => exact .inr fun e => hs b hv e.symm
  · cases hv : u.ownBlock with
    | none => exact .inl rfl
    | some b => exact .inr fun e => own_apart (h.2.1 i u r hu hr) hl tneI b hv e.symm

end Go.Proofs.Ythpodbhiopnnbaa.lists

/- An element put into a row by three appends: what the walk wants. -/
namespace Go.Proofs.Ythpodbhiopnnbaa.trip
open Go.RowKit P2 words edges ints good adjs fns sets apps covs neigh
set_option linter.unusedVariables false

theorem one_readsV {w : World} {g : Nat} {t : TypeId} {a : Value} (h : Blk w g t #[a]) : Reads w 1 (.slice (some ⟨g, 0, none⟩) 1 1) 1 [a] := by
  refine ⟨_, _, rfl, fun _ => ⟨g, 0, rfl, by omega, fun j u hu => ?_⟩⟩
  rw [Nat.zero_add]
  refine (h.cell j).trans ?_
  rw [← hu]
  match j with
  | 0 => rfl
  | j + 1 => simp
theorem rd1_someV {W : World} {g o c k n : Nat} {xs : List Value} (h : Reads W 1 (.slice (if c = k then some ⟨g, o, none⟩ else (some (⟨g, o, none⟩ : Addr)).map (·.add k)) (n - k) (c - k)) (n - k) xs) :
    Reads W 1 (.slice (if c = k then some ⟨g, o, none⟩ else some ⟨g, o + k, none⟩) (n - k) (c - k)) (n - k) xs := by
  simpa [apps.addr_add] using h
theorem rd1_zeroV {W : World} {g c k n : Nat} {xs : List Value} (h : Reads W 1 (.slice (if c = k then some ⟨g, 0, none⟩ else (some (⟨g, 0, none⟩ : Addr)).map (·.add k)) (n - k) (c - k)) (n - k) xs) :
    Reads W 1 (.slice (if c = k then some ⟨g, 0, none⟩ else some ⟨g, k, none⟩) (n - k) (c - k)) (n - k) xs := by
  simpa [apps.addr_add] using h
theorem reads_cap {W : World} {A : Option Addr} {n c k : Nat} {xs : List Value} (h : Reads W 1 (.slice A n c) n xs) (hk : k ≤ n) : k ≤ c := by
  rcases Nat.eq_zero_or_pos n with h0 | h0
  · omega
  · obtain ⟨A', c', e, hx⟩ := h
    cases e
    have := (hx h0).choose_spec.choose_spec.2.1
    omega
theorem own_at {w : World} {B i n c : Nat} {A : Option Addr} {t : TypeId} {us : List Value} {u : Value} (h : w.ownsRow B t 1 (.slice A n c) n us) (hu : us[i]? = some u) :
    ∃ g, A = some ⟨g, 0, none⟩ ∧ w.cell? ⟨g, i, none⟩ = some u ∧ B ≤ g ∧ g < w.heap.size := by
  have hi := (List.getElem?_eq_some_iff.1 hu).1
  have hl := h.1
  rcases h.2 with ⟨hf, _⟩ | ⟨g, cap, cur, hf, _⟩
  · have := congrArg (fun v => match v with | .slice _ n _ => n | _ => 0) hf
    simp at this
    omega
  · obtain ⟨rfl, rfl⟩ : A = some ⟨g, 0, none⟩ ∧ c = cap := by simpa using hf
    have := h.cellAt i (by omega)
    rw [hu] at this
    exact ⟨g, rfl, this, (h.lt g rfl).1, (h.lt g rfl).2⟩
theorem own_cell {w : World} {B i n c g : Nat} {t : TypeId} {us : List Value} {u : Value} (h : w.ownsRow B t 1 (.slice (some ⟨g, 0, none⟩) n c) n us) (hu : us[i]? = some u) : w.cell? ⟨g, i, none⟩ = some u := by
  obtain ⟨g', e, hc, -⟩ := own_at h hu
  have : g = g' := by injection e with e; injection e
  subst this
  exact hc
end Go.Proofs.Ythpodbhiopnnbaa.trip

/- The contract of the model's l8Choices. -/
namespace Go.Proofs.Ythpodbhiopnnbaa.ups
open Go.RowKit P2 words edges ints owns good adjs fns sets rets covs bitsI func apps grid gridr gridl trip lists
set_option linter.unusedVariables false

/-- a table of the call's own -/
def RetX (w : World) (rows : List (List Int)) (e : Ending) (w' : World) : Prop :=
  ∃ A c us, e = .returned (.slice A rows.length c) ∧ OwnG w' w.heap.size (.slice A rows.length c) us rows ∧ Below w.heap.size w w'
set_option maxHeartbeats 8000000 in
set_option maxRecDepth 100000 in
theorem l8Choices_any : ∀ (d : Nat), d ≤ 9 → ∀ (u : Value) (xs : List Int) (w : World), Ints w u xs → xs.length ≤ 8 →
    Calls Try.prog 87 #[u, .int .i64 (d : Int)] w (RetX w (chL xs d)) := by
  intro d
  induction d with
  | zero =>
    intro _ u xs w hu hxl
    have HO0 : Hid (OwnG ((w.alloc (.cells #[] 3)).alloc (.cells #[.slice (some ⟨w.heap.size, 0, none⟩) 0 0] 25)) w.heap.size (.slice (some ⟨w.heap.size + 1, 0, none⟩) 1 1) [.slice (some ⟨w.heap.size, 0, none⟩) 0 0] [[]]) := by
      have h_ := World.ownsRow_lit (size := 1) (base := w.heap.size) (e := 25) (w.alloc (.cells #[] 3)) #[.slice (some ⟨w.heap.size, 0, none⟩) 0 0] 1 (by simp) (by unfold maxLen; omega) rfl
      rw [World.size_alloc] at h_
      refine ⟨h_, ?_, ?_⟩
      · intro i u r hu hr
        cases i with
        | zero => cases hu; cases hr; exact (own_new0 w 3 1).alloc _
        | succ i => simp at hu
      · intro i j u u' k hij hu hu'
        cases j with
        | zero => omega
        | succ j => simp at hu'
    have HB0 : Hid (Below w.heap.size w ((w.alloc (.cells #[] 3)).alloc (.cells #[.slice (some ⟨w.heap.size, 0, none⟩) 0 0] 25))) := ((Below.refl _ _).alloc (Nat.le_refl _) _).alloc (by simp) _
    have HV : Hid (chL xs 0 = [[]]) := by show _ = _; unfold chL; rfl
    go_enter Try.func87, Try.ntmps87
    go_wp2_with fail
    go_ret
    rw [HV.out]
    exact ⟨_, _, _, rfl, HO0.out, HB0.out⟩
  | succ d ih =>
    intro hd u xs w hu hxl
    obtain ⟨i0, hi, hz0, hz1, hz2⟩ := info_parts infoInt
    obtain ⟨i1, hi1, hy0, hy1, hy2⟩ := info_parts infoRow
    have HIH := Lib.hid (ih (by omega))
    obtain ⟨A, c, rfl, hcx⟩ := hu.form
    have HU := Lib.hid hu
    have HCX := Lib.hid hcx
    have hwr : IntKind.i64.wrap (((d + 1 : Nat) : Int) - 1) = (d : Int) := by
      rw [show ((d + 1 : Nat) : Int) - 1 = (d : Int) from by omega]; exact IntWalk.i64_in _ (by omega)
    have d0 : (((d + 1 : Nat) : Int) == 0) = false := by simp; omega
    have hkk9 : ((d + 1 : Nat) : Int) ≤ 9 := by omega
    have hkk0 : 0 ≤ ((d + 1 : Nat) : Int) := by omega
    have HSH : Hid (∀ i : Nat, ¬ ((i : Int) + ((d + 1 : Nat) : Int) ≤ (xs.length : Int)) → chL (xs.drop i) (d + 1) = []) := fun i hh => chL_short _ _ (by rw [List.length_drop]; omega)
    have HLT : Hid (∀ i : Nat, ((i : Int) + ((d + 1 : Nat) : Int) ≤ (xs.length : Int)) → i < xs.length) := fun i hh => by omega
    generalize hkk : ((d + 1 : Nat) : Int) = kk at *
    have HTL : Hid ((chL xs (d + 1)).length ≤ 256) := by
      have := chL_len xs (d + 1)
      have h2 := Nat.pow_le_pow_right (show 0 < 2 by decide) hxl
      show _ ≤ _
      omega
    have HO0 : Hid (OwnG (w.alloc (.cells #[] 25)) w.heap.size (.slice (some ⟨w.heap.size, 0, none⟩) 0 0) [] []) := ⟨own_new0 w 25 1, fun i u r hu => by simp at hu, fun i j u u' k _ hu => by simp at hu⟩
    have HB0 : Hid (Below w.heap.size w (w.alloc (.cells #[] 25))) := (Below.refl _ _).alloc (Nat.le_refl _) _
    have HE0 : Hid (([] : List (List Int)) ++ chL (xs.drop 0) (d + 1) = chL xs (d + 1)) := rfl
    clear ih hkk hu hcx
    go_enter Try.func87, Try.ntmps87
    go_wp2_with fail
    go_loopg [5, 6] xs.length (fun g ov iv wr => ∃ (i : Nat) (ow : Value) (us : List Value) (O : List (List Int)), ow = ov ∧ i + g = xs.length ∧ iv = .int .i64 (i : Int) ∧ OwnG wr w.heap.size ow us O ∧ Hid (O ++ chL (xs.drop i) (d + 1) = chL xs (d + 1)) ∧ Below w.heap.size w wr)
    case atStart => exact ⟨0, _, [], [], rfl, by omega, rfl, HO0.out, HE0, HB0.out⟩
    case round =>
      clear HO0 HB0 HE0
      obtain ⟨i, ow, us, O, rfl, hig, rfl, hG, he, hB⟩ := hrel
      obtain ⟨A4, c4, rfl⟩ := own_form hG.1
      have hil : i ≤ xs.length := by omega
      have hwi : IntKind.i64.wrap ((i : Int) + kk) = (i : Int) + kk := IntWalk.i64_in _ (by omega)
      by_cases hle : (i : Int) + kk ≤ (xs.length : Int)
      · have hlt : i < xs.length := HLT.out i (by omega)
        obtain ⟨g2, rfl⟩ : ∃ g2, gk = g2 + 1 := ⟨gk - 1, by omega⟩
        obtain ⟨x, hx⟩ : ∃ x, xs[i]? = some x := ⟨_, List.getElem?_eq_getElem hlt⟩
        obtain ⟨gx, ox, rfl, cx0⟩ := HCX.out i x hx
        have HCX0 := Lib.hid cx0
        have HDR := Lib.hid (chL_drop hx d)
        have hdl : (xs.drop (i + 1)).length = xs.length - (i + 1) := List.length_drop
        have HRD : Hid (∀ W, Below w.heap.size w W → Reads W 1 (.slice (if c = i + 1 then some ⟨gx, ox, none⟩ else some ⟨gx, ox + (i + 1), none⟩) (xs.length - (i + 1)) (c - (i + 1))) (xs.length - (i + 1)) (cellsI (xs.drop (i + 1)))) := fun W hW => by
          have h2 := apps.Reads.drop (k := i + 1) (HU.out.below hW) (by omega)
          rw [apps.cellsI_drop, Nat.mul_one] at h2
          simpa [apps.addr_add] using h2
        have hcc := reads_cap HU.out (show i + 1 ≤ xs.length by omega)
        have HDL := Lib.hid hdl
        clear hdl
        obtain ⟨SA, sc, hsl, hif⟩ : ∃ SA sc, Hid (∀ W, Below w.heap.size w W → Reads W 1 (.slice SA (xs.length - (i + 1)) sc) (xs.length - (i + 1)) (cellsI (xs.drop (i + 1)))) ∧ ((c = i + 1 ∧ SA = some ⟨gx, ox, none⟩ ∧ sc = 0) ∨ (¬ c = i + 1 ∧ SA = some ⟨gx, ox + (i + 1), none⟩ ∧ sc = c - (i + 1))) := by
          refine ⟨_, _, HRD, ?_⟩
          by_cases h : c = i + 1
          · exact .inl ⟨h, by rw [if_pos h], by omega⟩
          · exact .inr ⟨h, by rw [if_neg h], rfl⟩
        clear HRD
        have hii : IntKind.i64.wrap ((i : Int) + 1) = (i : Int) + 1 := IntWalk.i64_in _ (by omega)
        obtain ⟨wo, hwo⟩ : ∃ wo, wo = wr := ⟨_, rfl⟩
        subst hwo
        have HCA : Hid (Calls Try.prog 87 #[.slice SA (xs.length - (i + 1)) sc, .int .i64 (d : Int)] wo (RetX wo (chL (xs.drop (i + 1)) d))) := by
          have h_ := hsl.out wo hB
          rw [← HDL.out] at h_ ⊢
          exact HIH.out _ _ wo h_ (by rw [HDL.out]; omega)
        have HG := Lib.hid hG
        have HBO := Lib.hid hB
        have HEO : Hid (O ++ (chL (xs.drop (i + 1)) d).map (x :: ·) ++ chL (xs.drop (i + 1)) (d + 1) = chL xs (d + 1)) := by
          show _ = _
          rw [← he.out, HDR.out, List.append_assoc]
        have hol : O.length + (chL (xs.drop (i + 1)) d).length ≤ 256 := by
          have h_ := congrArg List.length HEO.out
          rw [List.length_append, List.length_append, List.length_map] at h_
          have := HTL.out
          omega
        have HROW : Hid (∀ r ∈ chL (xs.drop (i + 1)) d, r.length = d) := fun r hr => chL_row _ _ r hr
        generalize chL (xs.drop (i + 1)) d = R at *
        clear hsl hG hB he cx0 hx
        rcases hif with ⟨hci, rfl, rfl⟩ | ⟨hne, rfl, rfl⟩
        all_goals
          (try subst hci)
          go_wp2_with fail
          refine HCA.out.mono ?_
          rintro e w5 ⟨A5, c5, us5, rfl, o5, b5⟩
          have HR := Lib.hid o5
          have HG5 := Lib.hid (HG.out.below b5)
          have HBW5 := Lib.hid (btrans HBO.out b5)
          have hg9 : Hid (OwnG w5 w.heap.size (.slice A4 O.length c4) us (O ++ (R.take 0).map (x :: ·))) := by
            show OwnG _ _ _ _ _
            rw [List.take_zero, List.map_nil, List.append_nil]; exact HG5.out
          have HSEP : Hid (∀ b, (Value.slice A4 O.length c4).ownBlock = some b → b < wo.heap.size ∨ w5.heap.size ≤ b) := fun b hb => .inl (HG.out.1.lt b hb).2
          have HIN : Hid (∀ b, (Value.slice A5 R.length c5).ownBlock = some b → wo.heap.size ≤ b ∧ b < w5.heap.size) := fun b hb => o5.1.lt b hb
          have hbo := HBO.out.size
          clear b5 o5
          go_wp2_with fail
          go_loopg [5, 8] R.length (fun g lv iv wr => ∃ (j : Nat) (lw : Value) (us : List Value), lw = lv ∧ j + g = R.length ∧ iv = .int .i64 (j : Int) ∧ OwnG wr w.heap.size lw us (O ++ (R.take j).map (x :: ·)) ∧
            OwnG wr wo.heap.size (.slice A5 R.length c5) us5 R ∧ Hid (∀ b, lw.ownBlock = some b → b < wo.heap.size ∨ w5.heap.size ≤ b) ∧ Below w.heap.size w wr ∧ w5.heap.size ≤ wr.heap.size)
          case atStart => exact ⟨0, _, us, rfl, by omega, rfl, hg9.out, HR.out, HSEP, HBW5.out, Nat.le_refl _⟩
          case round =>
            clear hg9 HSEP HR HG5
            obtain ⟨j, lw, us, rfl, hjg, rfl, hG, hR, hsep, hB, hsz⟩ := hrel
            cases gk with
            | zero =>
              obtain rfl : j = R.length := by omega
              rw [List.take_length] at hG
              have HG9 := Lib.hid hG
              clear hG hR
              go_wp2_with fail
              go_roundg g2
              case measure => omega
              case rel => exact ⟨i + 1, _, us, _, rfl, by omega, by go_num, HG9.out, HEO, hB⟩
            | succ g3 =>
              have hjl : j < R.length := by omega
              have hjl' : (j : Int) < (R.length : Int) := by omega
              obtain ⟨L, hL⟩ : ∃ L, R[j]? = some L := ⟨_, List.getElem?_eq_getElem hjl⟩
              obtain ⟨u, g, o, hu, hAx, c0, hru⟩ := (gridl.readsG_of_own hR).row hL
              subst hAx
              obtain ⟨Ar, cr, rfl, -⟩ := hru.form
              have hLk : L.length ≤ 9 := by have := HROW.out L (List.mem_of_getElem? hL); omega
              have HRW : Hid (O ++ (R.take (j + 1)).map (x :: ·) = (O ++ (R.take j).map (x :: ·)) ++ [x :: L]) := by
                show _ = _
                rw [take_cons x hL, ← List.append_assoc]
              have hrows : (O ++ (R.take j).map (x :: ·)).length ≤ 600 := by
                rw [List.length_append, List.length_map, List.length_take]; omega
              have hHR : Hid (∀ W, Below wr.heap.size wr W → Ints W (.slice Ar L.length cr) L) := fun W hW => hru.below hW
              have HO1 : Hid (((wr.alloc (.cells #[.int .i64 x] 3)).drew).ownsRow wr.heap.size 3 1 (.slice (some ⟨wr.heap.size, 0, none⟩) 1 1) 1 (cellsI [x])) := (own_new1 wr 3 x).drew
              have hcl : Hid ((cellsI L).length = L.length * 1) := by show _ = _; simp [cellsI]
              have HB1 : Hid (Below wr.heap.size wr ((wr.alloc (.cells #[.int .i64 x] 3)).drew)) := ((Below.refl _ _).alloc (Nat.le_refl _) _).drew
              obtain ⟨A4, c4, rfl⟩ := own_form hG.1
              have q1 := nearv.cell_keep HCX0.out hB
              have HG := Lib.hid hG
              have HR := Lib.hid hR
              have HB := Lib.hid hB
              have hwb := hB.size
              clear hL hG hR hru hB hjl
              generalize O ++ (R.take j).map (x :: ·) = rows at *
              go_wp2_with fail
              refine wp_region_held_drew (S := (fun w' : World => w'.cell? ⟨gx, ox + i, none⟩ = some (.int .i64 x) ∧ w'.cell? ⟨g, o + j, none⟩ = some (.slice Ar L.length cr))) (by kernel_rfl) (by (try dsimp only); simp [*]) (fun hHeld => ?_)
              change wpAnyH _ _ _ _ _ _ #[false, false, false, false, false, false, false, false, false, false, false, false, false, false] _ _
              refine wpAnyH_take (i := 0) (oi := ⟨some 35, _, _, _, _, _⟩) (v := ?_) rfl (by kernel_rfl) (by kernel_rfl) (by kernel_rfl) (fun _ _ _ h => h) (Or.inl ⟨by rfl, ?_⟩) (by assumption) ?_
              rotate_left
              · (intro w hSw; (try dsimp only at hSw); go_simp; (try (with_reducible rfl)))
              try simp only [Act.put, List.setIfInBounds_toArray, List.set_cons_zero, List.set_cons_succ]
              refine wpAnyH_take (i := 1) (oi := ⟨some 36, _, _, _, _, _⟩) (v := ?_) rfl (by kernel_rfl) (by kernel_rfl) (by kernel_rfl) (fun _ _ _ h => h) (Or.inl ⟨by rfl, ?_⟩) (by assumption) ?_
              rotate_left
              · (intro w hSw; (try dsimp only at hSw); go_simp; (try (with_reducible rfl)))
              try simp only [Act.put, List.setIfInBounds_toArray, List.set_cons_zero, List.set_cons_succ]
              refine wpAnyH_take (i := 2) (oi := ⟨some 37, _, _, _, _, _⟩) (v := ?_) rfl (by kernel_rfl) (by kernel_rfl) (by kernel_rfl) (fun _ _ _ h => h) (Or.inl ⟨by rfl, ?_⟩) (by assumption) ?_
              rotate_left
              · (intro w hSw; (try dsimp only at hSw); go_simp; (try (with_reducible rfl)))
              try simp only [Act.put, List.setIfInBounds_toArray, List.set_cons_zero, List.set_cons_succ]
              refine wpAnyH_take (i := 3) (oi := ⟨some 38, _, _, _, _, _⟩) (v := ?_) rfl (by kernel_rfl) (by kernel_rfl) (by kernel_rfl) (fun _ _ _ h => h) (Or.inl ⟨by rfl, ?_⟩) (by assumption) ?_
              rotate_left
              · (intro w hSw; (try dsimp only at hSw); go_simp; (try (with_reducible rfl)))
              try simp only [Act.put, List.setIfInBounds_toArray, List.set_cons_zero, List.set_cons_succ]
              refine wpAnyH_take (i := 4) (oi := ⟨some 39, _, _, _, _, _⟩) (v := ?_) rfl (by kernel_rfl) (by kernel_rfl) (by kernel_rfl) (fun _ _ _ h => h) (Or.inl ⟨by rfl, ?_⟩) (by assumption) ?_
              rotate_left
              · (intro w hSw; (try dsimp only at hSw); go_simp; (try (with_reducible rfl)))
              try simp only [Act.put, List.setIfInBounds_toArray, List.set_cons_zero, List.set_cons_succ]
              refine wpAnyH_take (i := 6) (oi := ⟨some 41, _, _, _, _, _⟩) (v := ?_) rfl (by kernel_rfl) (by kernel_rfl) (by kernel_rfl) (fun _ _ _ h => h) (Or.inl ⟨by rfl, ?_⟩) (by assumption) ?_
              rotate_left
              · (intro w hSw; (try dsimp only at hSw); go_simp; (try (with_reducible rfl)))
              try simp only [Act.put, List.setIfInBounds_toArray, List.set_cons_zero, List.set_cons_succ]
              refine wpAnyH_take (i := 7) (oi := ⟨some 42, _, _, _, _, _⟩) (v := ?_) rfl (by kernel_rfl) (by kernel_rfl) (by kernel_rfl) (fun _ _ _ h => h) (Or.inl ⟨by rfl, ?_⟩) (by assumption) ?_
              rotate_left
              · (intro w hSw; (try dsimp only at hSw); go_simp; (try (with_reducible rfl)))
              try simp only [Act.put, List.setIfInBounds_toArray, List.set_cons_zero, List.set_cons_succ]
              refine wpAnyH_take (i := 8) (oi := ⟨some 43, _, _, _, _, _⟩) (v := ?_) rfl (by kernel_rfl) (by kernel_rfl) (by kernel_rfl) (fun _ _ _ h => h) (Or.inl ⟨by rfl, ?_⟩) (by assumption) ?_
              rotate_left
              · (intro w hSw; (try dsimp only at hSw); go_simp; (try (with_reducible rfl)))
              try simp only [Act.put, List.setIfInBounds_toArray, List.set_cons_zero, List.set_cons_succ]
              refine wpAnyH_take (i := 9) (oi := ⟨some 44, _, _, _, _, _⟩) (v := ?_) rfl (by kernel_rfl) (by kernel_rfl) (by kernel_rfl) (fun _ _ _ h => h) (Or.inl ⟨by rfl, ?_⟩) (by assumption) ?_
              rotate_left
              · (intro w hSw; (try dsimp only at hSw); go_simp; (try (with_reducible rfl)))
              try simp only [Act.put, List.setIfInBounds_toArray, List.set_cons_zero, List.set_cons_succ]
              refine wpAnyH_ready (rs := [5]) (by kernel_rfl) (by simp) ?_
              refine AllReadyH.cons rfl (fun K hK => ?_) AllReadyH.nil
              go_simp
              refine hK.out _ _ (⟨nearv.cell_keep q1 HB1.out, nearv.cell_keep c0 HB1.out⟩) (fun hHeld => ?_)
              clear hK K
              try simp only [List.setIfInBounds_toArray, List.set_cons_zero, List.set_cons_succ]
              refine wpAnyH_ready (rs := [10]) (by kernel_rfl) (by simp) ?_
              refine AllReadyH.cons rfl (fun K hK => ?_) AllReadyH.nil
              (refine step_append_any _ rfl (.tmp 40) (.tmp 44) 25 rfl wr.heap.size 3 i0 (.int .i64 0) 1 8 Try.underlying25 hi hz0 hz1 hz2 rfl (by decide) (.slice (some ⟨wr.heap.size, 0, none⟩) 1 1) 1 (cellsI [x]) rfl HO1.out (.slice Ar L.length cr) L.length (cellsI L) rfl (hHR.out _ HB1.out) hcl.out (oneI _) (by unfold maxLen; omega) (by omega) HB1.out.size ?_; intro v2 w6 o6 gr6; have hB6 : Below wr.heap.size wr w6 := HB1.out.grown gr6 (by simp) (fun j e => (HO1.out.lt j e).1); have o7 : w6.ownsRow wr.heap.size 3 1 v2 (x :: L).length (cellsI (x :: L)) := by { have h_ := o6; rw [show 1 + L.length = (x :: L).length from by simp; omega] at h_; exact h_ }; clear o6 gr6; obtain ⟨A6, c6, rfl⟩ := own_form o7; have hs6 := hB6.size; have hB7 : Below wr.heap.size wr (w6.alloc (.cells #[.slice A6 (x :: L).length c6] 25)) := hB6.alloc hs6 _; have hown5 := (HG.out.below hB6).1; have hul : us.length ≤ 600 := (HG.out.len ▸ hrows))
              refine hK.out _ _ (⟨nearv.cell_keep q1 hB6, nearv.cell_keep c0 hB6⟩) (fun hHeld => ?_)
              clear hK K
              try simp only [Act.put, List.setIfInBounds_toArray, List.set_cons_zero, List.set_cons_succ]
              refine wpAnyH_ready (rs := [11]) (by kernel_rfl) (by simp) ?_
              refine AllReadyH.cons rfl (fun K hK => ?_) AllReadyH.nil
              go_simp
              refine hK.out _ _ (⟨nearv.cell_keep q1 hB7, nearv.cell_keep c0 hB7⟩) (fun hHeld => ?_)
              clear hK K
              try simp only [List.setIfInBounds_toArray, List.set_cons_zero, List.set_cons_succ]
              refine wpAnyH_ready (rs := [12]) (by kernel_rfl) (by simp) ?_
              refine AllReadyH.cons rfl (fun K hK => ?_) AllReadyH.nil
              (refine step_append_lies _ rfl (.tmp 35) (.tmp 46) 40 rfl w.heap.size 25 i1 (.slice none 0 0) 1 24 Try.underlying40 hi1 hy0 hy1 hy2 rfl (by decide) (.slice A4 rows.length c4) rows.length us rfl (hown5.alloc _) ⟨w6.heap.size, 0, none⟩ 1 1 [.slice A6 (x :: L).length c6] rfl rfl (cell_one_new _ _ _) (fun x hx => by simp at hx; subst hx; rfl) (by decide) (by unfold maxLen; omega) (by omega) (by simp; omega) (w6.heap.size + 1) (by simp) ?_; intro g8 cap8 w7 hown7 hgrow7 lies7 lt7; have hR6 := HR.out.below hB6; have hR7 := keepG (hR6.below ((Below.refl w6.heap.size w6).alloc (Nat.le_refl _) (.cells #[.slice A6 (x :: L).length c6] 25))) (hown5.alloc _) (fun b hb e => by { have h1 := HIN.out b hb; have h2 := hsep.out b e; omega }) hgrow7; have e7 : Below w.heap.size w w7 := ((btrans HB.out hB7).grown hgrow7 (by simp; omega) (fun j e => (hown5.lt j e).1)); have q3 := nearv.cell_keep HCX0.out e7; have hc7 : w7.cell? ⟨g, o + j, none⟩ = some (.slice Ar L.length cr) := by { obtain ⟨g_, hga, hc_, -, -⟩ := own_at hR7.1 hu; simp only [Option.some.injEq, Addr.mk.injEq, and_true] at hga; rw [hga.1, hga.2, Nat.zero_add]; exact hc_ })
              refine hK.out _ _ (⟨q3, hc7⟩) (fun hHeld => ?_)
              clear hK K
              try simp only [Act.put, List.setIfInBounds_toArray, List.set_cons_zero, List.set_cons_succ]
              refine wpAnyH_take (i := 13) (oi := ⟨some 5, _, _, _, _, _⟩) (v := ?_) rfl (by kernel_rfl) (by kernel_rfl) (by kernel_rfl) (fun _ _ _ h => h) (Or.inl ⟨by rfl, ?_⟩) (by assumption) ?_
              rotate_left
              · (intro w hSw; (try dsimp only at hSw); go_simp; (try (with_reducible rfl)))
              try simp only [Act.put, List.setIfInBounds_toArray, List.set_cons_zero, List.set_cons_succ]
              refine wpAnyH_done (by kernel_rfl) ?_ _
              have HG7 := Lib.hid (OwnG.push HG.out hB6 hwb o7 hown7 rfl hgrow7)
              have HR7 := Lib.hid hR7
              have HB7 := Lib.hid e7
              have hge7 : w6.heap.size ≤ w7.heap.size := by
                have := hgrow7.size
                simp at this; omega
              have HSP : Hid (∀ b, (Value.slice (some ⟨g8, 0, none⟩) (rows.length + 1) cap8).ownBlock = some b → b < wo.heap.size ∨ w5.heap.size ≤ b) := fun b hb => by
                have hb8 : g8 = b := by simpa [Value.ownBlock] using hb
                rcases lies7 with h1 | h1
                · exact hsep.out b (by rw [← hb8]; exact h1)
                · right; omega
              clear hown7 hgrow7 hown5 hR6 hR7 e7 hB6 hB7 o7 q1 q3 hc7 c0 hHeld lies7
              go_wp2_with fail
              go_roundg g3
              case measure => omega
              case rel => exact ⟨j + 1, _, _, rfl, by omega, by go_num, by rw [HRW.out]; exact HG7.out, HR7.out, HSP, HB7.out, by omega⟩
      · have HV : Hid (chL xs (d + 1) = O) := by
          show _ = _
          rw [← he.out, HSH.out i (by omega), List.append_nil]
        have HG := Lib.hid hG
        clear hG
        go_wp2_with fail
        go_ret
        rw [HV.out]
        exact ⟨A4, c4, us, rfl, HG.out, hB⟩
end Go.Proofs.Ythpodbhiopnnbaa.ups

/- Guards: the contracts of the model's l10Good, l10Sets and GuardSets. -/
namespace Go.Proofs.Ythpodbhiopnnbaa.ups
open Go.RowKit P2 words edges ints owns good adjs fns sets rets covs bitsI func grid gridl
set_option linter.unusedVariables false

theorem l10Sets_any (n m : Nat) (v : Value) (w : World) (hn : n ≤ 8) (hm : m ≤ 8) :
    Calls Try.prog 63 #[.agg #[.int .i64 (n : Int), v], .int .i64 (m : Int)] w (RetX w (rowN (setsK n m))) := by
  have b0 : Below w.heap.size w (w.alloc (.cells #[.int .i64 (n : Int), v] 29)) := (Below.refl _ _).alloc (Nat.le_refl _) _
  have g0 := Blk.new w 29 #[.int .i64 (n : Int), v]
  obtain ⟨p0, p1, -, -⟩ := g0.two
  have HA := Lib.hid (l2All_any n v (w.alloc (.cells #[.int .i64 (n : Int), v] 29)) hn)
  have HB0 := Lib.hid b0
  have HCH : Hid (∀ (u : Value) (W : World), Ints W u (allN n) → Calls Try.prog 87 #[u, .int .i64 (m : Int)] W (RetX W (rowN (setsK n m)))) := fun u W hu => by
    have h_ := l8Choices_any m (by omega) u (allN n) W hu (by rw [allN_len]; exact hn)
    have h2 := chL_sets ⟨n, by omega⟩ ⟨m, by omega⟩
    simp only at h2
    rw [h2] at h_
    exact h_
  clear b0 g0
  go_enter Try.func63, Try.ntmps63
  go_wp2_with fail
  refine HA.out.mono ?_
  rintro e w1 ⟨A1, c1, rfl, o1, b1⟩
  have HE1 := Lib.hid (btrans HB0.out b1)
  have HC := Lib.hid (HCH.out _ w1 (show Ints w1 _ _ from Reads.of_own o1))
  clear o1 b1
  go_wp2_with fail
  refine HC.out.mono ?_
  rintro e w2 ⟨A2, c2, us, rfl, o2, b2⟩
  go_wp2_with fail
  go_ret
  exact ⟨A2, c2, us, rfl, o2.base HE1.out.size, btrans HE1.out b2⟩
set_option maxHeartbeats 2000000 in
set_option maxRecDepth 100000 in
theorem l10Good_any (s k : Int) (v : Value) (l : List Ed) (w : World) (h : Edges w v l) (hl : l.length ≤ 1048576) (hs1 : -9223372036854775808 ≤ s) (hs2 : s ≤ 9223372036854775807) :
    Calls Try.prog 62 #[.agg #[.int .i64 s, v], .int .i64 k] w fun e w' => e = .returned (.bool (okG (GrdOk s l k))) ∧ Below w.heap.size w w' := by
  obtain ⟨A, c, rfl, -⟩ := h.form
  have b0 : Below w.heap.size w (w.alloc (.cells #[.int .i64 s, .slice A l.length c] 29)) := (Below.refl _ _).alloc (Nat.le_refl _) _
  have g0 := Blk.new w 29 #[.int .i64 s, .slice A l.length c]
  obtain ⟨p0, p1, -, -⟩ := g0.two
  have HGD := Lib.hid (l2Good_any s _ l _ (h.below b0) hl hs1 hs2)
  have HIN := Lib.hid (fun (W : World) => l1In_any k 0 s W)
  have HB0 := Lib.hid b0
  have HG0 := Lib.hid g0
  clear h b0 g0
  by_cases hgd : P2.Good s l
  · rw [goodB_yes hgd] at HGD
    have HV : Hid (okG (GrdOk s l k) = inB k 0 s) := by
      show _ = _
      unfold inB
      rw [Bool.eq_iff_iff, okG_iff, decide_eq_true_iff]
      exact ⟨fun h => h.2, fun h => ⟨hgd, h⟩⟩
    clear hgd
    go_enter Try.func62, Try.ntmps62
    go_wp2_with fail
    refine HGD.out.mono ?_
    rintro e w1 ⟨rfl, b1⟩
    have HB1 := Lib.hid (btrans HB0.out b1)
    have hg1 := HG0.out.below b1 HG0.out.lt
    clear p0 p1
    obtain ⟨p0, p1, -, -⟩ := hg1.two
    clear b1 hg1
    go_wp2_with fail
    refine (HIN.out _).mono ?_
    rintro e w' ⟨rfl, rfl⟩
    go_wp2_with fail
    go_ret
    rw [HV.out]
    exact ⟨rfl, HB1.out⟩
  · rw [goodB_no hgd] at HGD
    have HV2 : Hid (okG (GrdOk s l k) = false) := okG_no fun h => hgd h.1
    clear hgd
    go_enter Try.func62, Try.ntmps62
    go_wp2_with fail
    refine HGD.out.mono ?_
    rintro e w1 ⟨rfl, b1⟩
    have HB1 := Lib.hid (btrans HB0.out b1)
    clear p0 p1 b1
    go_wp2_with fail
    go_ret
    rw [HV2.out]
    exact ⟨rfl, HB1.out⟩
set_option maxHeartbeats 2000000 in
set_option maxRecDepth 100000 in
theorem specGs_any (s k : Int) (v : Value) (l : List Ed) (w : World) (h : Edges w v l) (hl : l.length ≤ 1048576) (hs1 : -9223372036854775808 ≤ s) (hs2 : s ≤ 9223372036854775807) :
    Calls Try.prog 32 #[.agg #[.int .i64 s, v], .int .i64 k] w (RetGr w (GrdOk s l k) (gsL s k)) := by
  obtain ⟨A, c, rfl, -⟩ := h.form
  have b0 : Below w.heap.size w (w.alloc (.cells #[.int .i64 s, .slice A l.length c] 29)) := (Below.refl _ _).alloc (Nat.le_refl _) _
  have g0 := Blk.new w 29 #[.int .i64 s, .slice A l.length c]
  obtain ⟨p0, p1, -, -⟩ := g0.two
  have HN := Lib.hid (l10Good_any s k _ l _ (h.below b0) hl hs1 hs2)
  have HB0 := Lib.hid b0
  have HG0 := Lib.hid g0
  clear h b0 g0
  by_cases hok : GrdOk s l k
  · rw [okG_yes hok] at HN
    have HOK := Lib.hid hok
    have h0 := hok.1.1
    have h8 := hok.1.2.1
    have hk0 := hok.2.1
    have hks := hok.2.2
    obtain ⟨n, rfl⟩ : ∃ n : Nat, s = (n : Int) := ⟨s.toNat, by omega⟩
    obtain ⟨m, rfl⟩ : ∃ m : Nat, k = (m : Int) := ⟨k.toNat, by omega⟩
    have HV : Hid (gsL (n : Int) (m : Int) = rowN (setsK n m)) := by show _ = _; unfold gsL; rw [Int.toNat_natCast, Int.toNat_natCast]
    have hn : n ≤ 8 := by omega
    have hm : m ≤ 8 := by omega
    have HS := Lib.hid (fun (W : World) => l10Sets_any n m (.slice A l.length c) W hn hm)
    clear hok
    go_enter Try.func32, Try.ntmps32
    go_wp2_with fail
    refine HN.out.mono ?_
    rintro e w1 ⟨rfl, b1⟩
    have HE1 := Lib.hid (btrans HB0.out b1)
    have HG1 := Lib.hid (HG0.out.below b1 HG0.out.lt)
    clear p0 p1 b1 HN HB0 HG0
    obtain ⟨p0, p1, -, -⟩ := HG1.out.two
    go_wp2_with fail
    refine (HS.out w1).mono ?_
    rintro e w2 ⟨A2, c2, us, rfl, o2, b2⟩
    have o4 := o2.base HE1.out.size
    have e4 := btrans HE1.out b2
    clear o2 b2 p0 p1
    go_wp2_with fail
    go_ret2
    rw [HV.out]
    exact RetGr.yes HOK.out o4 e4
  · rw [okG_no hok] at HN
    have HNO := Lib.hid hok
    clear hok
    go_enter Try.func32, Try.ntmps32
    go_wp2_with fail
    refine HN.out.mono ?_
    rintro e w1 ⟨rfl, b1⟩
    have HE1 := Lib.hid (btrans HB0.out b1)
    clear p0 p1 b1
    go_wp2_with fail
    go_ret2
    exact RetGr.no HNO.out (own_base (own_new0 w1 25 1) HE1.out.size) (HE1.out.alloc HE1.out.size _)
end Go.Proofs.Ythpodbhiopnnbaa.ups
