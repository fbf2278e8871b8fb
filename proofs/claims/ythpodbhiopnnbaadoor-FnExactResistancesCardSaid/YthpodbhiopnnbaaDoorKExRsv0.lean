/- The contract of the program's resultsOf with the nodes of sets. -/
import Derived.Handy
import Derived.Test.YthpodbhiopnnbaaDoorK04
import Derived.Test.YthpodbhiopnnbaaDoorK11
import Derived.Test.YthpodbhiopnnbaaDoorK10
import Derived.Deep.DeepCutAuto
import Derived.Deep.RegionHeld3
import Derived.Lib.SliceRun
import Derived.Deep.QuietTactic
import Derived.Test.YthpodbhiopnnbaaDoorK05
import Derived.Test.YthpodbhiopnnbaaDoorK03
import Derived.Laws.CopyOwn
import Derived.Laws.Cover3
import Derived.StillTailTactics
import Derived.Test.YthpodbhiopnnbaaDoorK17
import Derived.Test.YthpodbhiopnnbaaDoorK14
import Derived.Maps.AppendAt
import Derived.Test.YthpodbhiopnnbaaDoorK02
import Derived.Test.YthpodbhiopnnbaaDoorK18
import Derived.Test.YthpodbhiopnnbaaDoorK01
import Derived.Maps.OwnSet
import Derived.Maps.OwnOps
import Derived.Maps.Views
namespace Go.Proofs.YthpodbhiopnnbaaDoor.ups
open Go.RowKit P2 words edges ints owns good adjs fns sets rets covs bitsI func grid
set_option linter.unusedVariables false

/-- the lists of the nodes of sets -/
def rowN (L : List Nat) : List (List Int) := L.map ndN
theorem rowN_len (L : List Nat) : (rowN L).length = L.length := List.length_map _
theorem rowN_at {L : List Nat} {i c : Nat} (h : L[i]? = some c) : (rowN L)[i]? = some (ndN c) := by simp [rowN, h]
/-- so many rows are done -/
def rowT (L : List Nat) (k : Nat) : List (List Int) := rowN (L.take k) ++ List.replicate (L.length - k) []
theorem rowT_zero (L : List Nat) : rowT L 0 = List.replicate L.length [] := by simp [rowT, rowN]
theorem rowT_all (L : List Nat) : rowT L L.length = rowN L := by simp [rowT]
theorem rowT_len (L : List Nat) {k : Nat} (h : k ≤ L.length) : (rowT L k).length = L.length := by simp [rowT, rowN]; omega
theorem rowT_succ {L : List Nat} {k c : Nat} (h : L[k]? = some c) : (rowT L k).set k (ndN c) = rowT L (k + 1) := by
  have hk := (List.getElem?_eq_some_iff.1 h).1
  have hl : (rowN (L.take k)).length = k := by rw [rowN_len, List.length_take]; omega
  unfold rowT
  obtain ⟨m, hm⟩ : ∃ m, L.length - k = m + 1 := ⟨L.length - k - 1, by omega⟩
  rw [List.set_append, if_neg (by omega), hl, Nat.sub_self, hm, List.replicate_succ, List.set_cons_zero, List.take_add_one, h, show L.length - (k + 1) = m from by omega]
  unfold rowN
  rw [List.map_append, List.append_assoc]
  rfl
set_option maxHeartbeats 4000000 in
set_option maxRecDepth 100000 in
theorem resultsNd_any (u : Value) (L : List Nat) (w : World) (hu : Nums w u L) (hL : ∀ c ∈ L, c < 256) (hl : L.length ≤ 1048576) :
    Calls Tryd.prog 52 #[u, .func (.func 53) #[] #[]] w fun e w' => ∃ A c us, e = .returned (.slice A L.length c) ∧ OwnG w' w.heap.size (.slice A (rowN L).length c) us (rowN L) ∧ Below w.heap.size w w' := by
  obtain ⟨A, c, rfl, hc⟩ := hu.form
  have HU := Lib.hid hu
  have hent : ∀ (args : Array Value) (W : World), (callFunc 53 args).run Tryd.prog W = .ok (.enter 53 args) W := fun _ _ => by kernel_rfl
  have HM := Lib.hid (OwnG.made w L.length (by unfold maxLen; omega))
  have HB2 := Lib.hid ((Below.refl w.heap.size w).alloc (Nat.le_refl _) (.cells (madeCells #[.slice none 0 0] (L.length * 1)) 25))
  have HCL := Lib.hid hL
  clear hu hc hL
  obtain ⟨i1, hi1, hy0, hy1, hy2⟩ := info_parts infoRow
  have hmk := fun (W : World) => run_make_rowN (P := Tryd.prog) 35 25 i1 (.slice none 0 0) Tryd.underlying35 hi1 hy0 .i64 .i64 L.length L.length (Nat.le_refl _) (by rw [hy2]; omega) (by omega) W
  rw [hy1] at hmk
  rw [Nat.mul_one] at HM HB2
  go_enter Tryd.func52, Tryd.ntmps52
  go_wp2_with fail
  go_loopg [6, 7, 13] L.length (fun g _ _ i wr => ∃ (k : Nat) (us : List Value), k + g = L.length ∧ i = .int .i64 (k : Int) ∧ OwnG wr w.heap.size (.slice (some ⟨w.heap.size, 0, none⟩) L.length L.length) us (rowT L k) ∧ Below w.heap.size w wr)
  case atStart => exact ⟨0, _, by omega, rfl, by rw [rowT_zero]; exact HM.out, HB2.out⟩
  case round =>
    clear HM HB2 hmk
    obtain ⟨k, us, hkg, rfl, hG, hB⟩ := hrel
    cases gk with
    | zero =>
      obtain rfl : k = L.length := by omega
      rw [rowT_all] at hG
      have HR := Lib.hid hG
      have HB := Lib.hid hB
      clear hG hB
      go_wp2_with fail
      go_ret
      exact ⟨_, _, us, rfl, by rw [rowN_len]; exact HR.out, HB.out⟩
    | succ g2 =>
      have hlt : k < L.length := by omega
      have hlt' : (k : Int) < (L.length : Int) := by omega
      obtain ⟨x, hx⟩ : ∃ x, L[k]? = some x := ⟨_, List.getElem?_eq_getElem hlt⟩
      have hx8 := HCL.out x (List.mem_of_getElem? hx)
      obtain ⟨_, _, hf2, hcc⟩ := (show Nums wr (.slice A L.length c) L from HU.out.below hB).form
      cases hf2
      obtain ⟨g5, o5, rfl, c5⟩ := hcc k x hx
      have HD := Lib.hid (nodes_any x wr (by omega))
      rw [show nw (bitB x) 8 = ndN x from rfl] at HD
      have HG := Lib.hid hG
      have HB := Lib.hid hB
      have HX := Lib.hid hx
      clear hG hB hx hcc
      go_wp2_with fail
      refine HD.out.mono ?_
      rintro e w3 ⟨A3, c3, rfl, o3, b3⟩
      have hG3 := HG.out.below b3
      have hrl := rowT_len L (k := k) (by omega)
      have h1 := hG3.1
      rw [hrl] at h1
      have hul := hG3.len
      rw [hrl] at hul
      obtain ⟨u0, hu0⟩ : ∃ u, us[k]? = some u := ⟨_, List.getElem?_eq_getElem (by omega)⟩
      have f0 := h1.cellAt k (by omega)
      rw [hu0] at f0
      have z0 := h1.frozenAt k
      have HS : Hid (OwnG (w3.setCell ⟨w.heap.size, k, none⟩ (.slice A3 (ndN x).length c3)) w.heap.size (.slice (some ⟨w.heap.size, 0, none⟩) L.length L.length) (us.set k (.slice A3 (ndN x).length c3)) (rowT L (k + 1))) := by
        have h9 : OwnG w3 w.heap.size (.slice (some ⟨w.heap.size, 0, none⟩) (rowT L k).length L.length) us (rowT L k) := by rw [hrl]; exact hG3
        have hfr := OwnG.fresh HG.out o3
        have := OwnG.store h9 (by rw [hrl]; exact hlt) (own_base o3 HB.out.size) (fun i x b _ hx hb => hfr i x b hx hb)
        rw [rowT_succ HX.out, hrl] at this
        exact this
      have HB3 := Lib.hid (btrans HB.out b3)
      clear hG3 h1 hrl hul hu0 c5
      go_wp2_with fail
      go_roundg g2
      case measure => omega
      case rel => exact ⟨k + 1, _, by omega, by go_num, HS.out, HB3.out.setCell (Nat.le_refl _) _⟩
end Go.Proofs.YthpodbhiopnnbaaDoor.ups

/- slices.DeleteFunc over a row of sets of the call's own. -/
namespace Go.Proofs.YthpodbhiopnnbaaDoor.ups
open Go.RowKit P2 words edges ints good adjs fns sets rets covs bitsI func
set_option linter.unusedVariables false

/-- a function value that answers for the elements of a list of words, in every world of a kind -/
structure FnK (K : World → Prop) (f : FuncId) (caps : Array Value) (xs : List Nat) (p : Nat → Bool) : Prop where
  enter : ∀ (args : Array Value) (W : World), (callFunc f args).run Tryd.prog W = .ok (.enter f args) W
  call : ∀ W, K W → ∀ x ∈ xs, Calls Tryd.prog f (#[.int .u64 (x : Int)] ++ caps) W fun e W' => e = .returned (.bool (p x)) ∧ Below W.heap.size W W'
/-- what stands wherever a row's block is written to -/
structure Kind (K : World → Prop) (v : Value) : Prop where
  go : ∀ W W', K W → Below W.heap.size W W' → K W'
  set : ∀ g, v.ownBlock = some g → ∀ W j u, K W → K (W.setCell ⟨g, j, none⟩ u)
theorem own_cut {w : World} {B g n c i : Nat} {t : TypeId} {xs : List Value} (h : w.ownsRow B t 1 (.slice (some ⟨g, 0, none⟩) n c) n xs) (hi : i ≤ n) : w.ownsRow B t 1 (.slice (some ⟨g, 0, none⟩) i c) i (xs.take i) := by
  refine ⟨by rw [List.length_take, h.1]; omega, ?_⟩
  rcases h.2 with ⟨h', _⟩ | ⟨g', cap', cur, h', hb, hg, hnc, hcm, hcs, htake⟩
  · simp at h'
  · simp only [Value.slice.injEq, Option.some.injEq, Addr.mk.injEq, and_true, true_and] at h'
    obtain ⟨rfl, rfl⟩ := h'
    exact .inr ⟨g, c, cur, rfl, hb, hg, by omega, hcm, hcs, by rw [← htake, List.take_take]; congr 1; omega⟩
theorem own_setCells {B g n c : Nat} {t : TypeId} : ∀ (vs : List Value) (o : Nat) (w : World) (xs : List Value), w.ownsRow B t 1 (.slice (some ⟨g, 0, none⟩) n c) n xs → ∃ ys, (w.setCells g o vs).ownsRow B t 1 (.slice (some ⟨g, 0, none⟩) n c) n ys ∧ ys.take o = xs.take o
  | [], o, w, xs, h => ⟨xs, h, rfl⟩
  | v :: vs, o, w, xs, h => by
    obtain ⟨ys, h1, h2⟩ := own_setCells vs (o + 1) _ _ (h.stored o v).1
    refine ⟨ys, h1, ?_⟩
    have := congrArg (List.take o) h2
    rw [List.take_take, List.take_take, Nat.min_eq_left (by omega), List.take_set, List.set_eq_of_length_le (by rw [List.length_take]; omega)] at this
    exact this
theorem kind_setCells {K : World → Prop} {g : Nat} (hK : ∀ W j u, K W → K (W.setCell ⟨g, j, none⟩ u)) : ∀ (vs : List Value) (o : Nat) (w : World), K w → K (w.setCells g o vs)
  | [], o, w, h => h
  | v :: vs, o, w, h => kind_setCells hK vs (o + 1) _ (hK w o v h)
/-- the row while what is struck is written over: what is kept of the first j, anything, the rest -/
def DelR (p : Nat → Bool) (xs : List Nat) (i j : Nat) (L : List Nat) : Prop := L.length = xs.length ∧ i ≤ j ∧ L.take i = (xs.take j).filter (fun x => !p x) ∧ L.drop j = xs.drop j
theorem DelR.at_ {p : Nat → Bool} {xs : List Nat} {i j : Nat} {L : List Nat} (h : DelR p xs i j L) (hj : j < xs.length) : L[j]? = xs[j]? := by
  have := congrArg (fun z : List Nat => z[0]?) h.2.2.2
  simpa using this
theorem DelR.skip {p : Nat → Bool} {xs : List Nat} {i j x : Nat} {L : List Nat} (h : DelR p xs i j L) (hx : xs[j]? = some x) (hp : p x = true) : DelR p xs i (j + 1) L :=
  ⟨h.1, by have := h.2.1; omega, by rw [h.2.2.1, List.take_add_one, hx, List.filter_append]; simp [hp], by rw [← List.drop_drop, h.2.2.2, List.drop_drop]⟩
theorem DelR.keep {p : Nat → Bool} {xs : List Nat} {i j x : Nat} {L : List Nat} (h : DelR p xs i j L) (hx : xs[j]? = some x) (hp : p x = false) : DelR p xs (i + 1) (j + 1) (L.set i x) := by
  obtain ⟨h1, h2, h3, h4⟩ := h
  have hj := (List.getElem?_eq_some_iff.1 hx).1
  refine ⟨by simpa using h1, by omega, ?_, ?_⟩
  · have hi : i < L.length := by omega
    rw [show (xs.take (j + 1)) = xs.take j ++ [x] from by rw [List.take_add_one, hx]; rfl, List.filter_append, List.take_add_one, List.getElem?_set_self hi, List.take_set, List.set_eq_of_length_le (by rw [List.length_take]; omega), h3]
    simp [hp]
  · rw [List.drop_set_of_lt (by omega), ← List.drop_drop, h4, List.drop_drop]
theorem DelR.done {p : Nat → Bool} {xs : List Nat} {i j : Nat} {L : List Nat} (h : DelR p xs i j L) (hj : xs.length ≤ j) : L.take i = xs.filter (fun x => !p x) := by
  rw [h.2.2.1, List.take_of_length_le hj]
theorem DelR.first {p : Nat → Bool} {xs : List Nat} {i x : Nat} (hx : xs[i]? = some x) (hp : p x = true) (hf : ∀ j z, j < i → xs[j]? = some z → p z = false) : DelR p xs i (i + 1) xs :=
  ⟨rfl, by omega, by
    rw [List.take_add_one, hx, List.filter_append]
    have : (xs.take i).filter (fun x => !p x) = xs.take i := by
      rw [List.filter_eq_self]
      intro a ha
      obtain ⟨j, hj⟩ := List.getElem?_of_mem ha
      have hji : j < i := by have := (List.getElem?_eq_some_iff.1 hj).1; rw [List.length_take] at this; omega
      rw [List.getElem?_take_of_lt hji] at hj
      rw [hf j a hji hj]; rfl
    rw [this]; simp [hp], rfl⟩
theorem idxF_case {p : Nat → Bool} (xs : List Nat) : (idxF p xs = -1 ∧ xs.filter (fun x => !p x) = xs) ∨ ∃ i x, idxF p xs = ((i : Nat) : Int) ∧ xs[i]? = some x ∧ p x = true ∧ ∀ j z, j < i → xs[j]? = some z → p z = false := by
  by_cases h : ∃ x ∈ xs, p x = true
  · obtain ⟨x, hx, hp⟩ := h
    exact .inr (idxF_some hx hp)
  · left
    have hno : ∀ x ∈ xs, p x = false := fun x hx => by
      cases hp : p x
      · rfl
      · exact absurd ⟨x, hx, hp⟩ h
    refine ⟨?_, List.filter_eq_self.2 fun x hx => by rw [hno x hx]; rfl⟩
    unfold idxF
    rw [List.findIdx?_eq_none_iff.2 hno]
set_option maxHeartbeats 8000000 in
set_option maxRecDepth 100000 in
theorem deleteFuncU_own (B : Nat) (v : Value) (xs : List Nat) (f : FuncId) (caps : Array Value) (p : Nat → Bool) (K : World → Prop) (w : World) (ho : w.ownsRow B 64 1 v xs.length (cellsU xs)) (hxl : xs.length ≤ 1048576) (hK : Kind K v) (h : FnK K f caps xs p) (hw : K w) :
    Calls Tryd.prog 62 #[v, .func (.func f) #[] caps] w fun e w' => ∃ A c, e = .returned (.slice A (xs.filter fun x => !p x).length c) ∧ w'.ownsRow B 64 1 (.slice A (xs.filter fun x => !p x).length c) (xs.filter fun x => !p x).length (cellsU (xs.filter fun x => !p x)) ∧ (Value.slice A (xs.filter fun x => !p x).length c).ownBlock = v.ownBlock ∧ K w' := by
  obtain ⟨A, c, rfl⟩ := own_form ho
  have hent := h.enter
  have HIX := Lib.hid (indexFuncU_any (.slice A xs.length c) xs f caps p w (Reads.of_own ho) hxl { enter := h.enter, call := fun W hW x hx => h.call W (hK.go w W hw hW) x hx })
  have HF := Lib.hid h.call
  have HGO := Lib.hid hK.go
  rcases idxF_case (p := p) xs with ⟨hi, hfe⟩ | ⟨i0, x0, hi, hx0, hp0, hf0⟩
  · rw [hi] at HIX
    rw [hfe]
    have HO := Lib.hid ho
    have HW := Lib.hid hw
    clear h hK hw ho hi hfe
    go_enter Tryd.func62, Tryd.ntmps62
    go_wp2_with fail
    refine HIX.out.mono ?_
    rintro e w1 ⟨rfl, b1⟩
    go_wp2_with fail
    go_ret
    exact ⟨A, c, rfl, own_below HO.out b1, rfl, HGO.out _ _ HW.out b1⟩
  · rw [hi] at HIX
    have hi0 := (List.getElem?_eq_some_iff.1 hx0).1
    obtain ⟨g, rfl, hnc⟩ : ∃ g, A = some ⟨g, 0, none⟩ ∧ xs.length ≤ c := by
      rcases ho.2 with ⟨_, h2⟩ | ⟨g, cap, cur, hv, _, _, hnc, _⟩
      · omega
      · cases hv; exact ⟨g, rfl, hnc⟩
    have HST := Lib.hid (hK.set g rfl)
    have HO := Lib.hid ho
    have HW := Lib.hid hw
    have HD0 := Lib.hid (DelR.first hx0 hp0 hf0)
    have hne1 : ((i0 : Int) == -1) = false := beq_eq_false_iff_ne.2 (by omega)
    clear h hK hw ho hi hx0 hp0 hf0
    go_enter Tryd.func62, Tryd.ntmps62
    go_wp2_with fail
    refine HIX.out.mono ?_
    rintro e w1 ⟨rfl, b1⟩
    have HO1 := Lib.hid (own_below HO.out b1)
    have HW1 := Lib.hid (HGO.out _ _ HW.out b1)
    clear b1 HO HW HIX
    go_wp2_with fail
    go_loopg [5, 6, 7] (xs.length - (i0 + 1)) (fun gg s5 s6 s7 wr => ∃ (i j : Nat) (L : List Nat), s5 = .int .i64 (i : Int) ∧ s6 = .int .i64 (j : Int) ∧ j + gg = xs.length ∧ i < j ∧ Hid (DelR p xs i j L) ∧ wr.ownsRow B 64 1 (.slice (some ⟨g, 0, none⟩) xs.length c) xs.length (cellsU L) ∧ Hid (K wr))
    case atStart => exact ⟨i0, i0 + 1, xs, rfl, by go_num, by omega, by omega, HD0, HO1.out, HW1⟩
    case round =>
      clear HD0 HO1 HW1
      obtain ⟨i, j, L, rfl, rfl, hjg, hij, hdl, hrow, hkw⟩ := hrel
      have hLl := hdl.out.1
      cases gk with
      | zero =>
        obtain rfl : j = xs.length := by omega
        have hin : i < xs.length := hij
        have hci : ¬ c = i := by omega
        have hci2 : (c == i) = false := beq_eq_false_iff_ne.2 hci
        have HFI := Lib.hid (hdl.out.done (Nat.le_refl _))
        have hcl : ∀ ty, (Builtin.clear_ #[61] ty #[.slice (some ⟨g, i, none⟩) (xs.length - i) (c - i)]).run Tryd.prog wr = .ok (.tuple #[]) (wr.setCells g i (List.replicate (xs.length - i) (.int .u64 0))) :=
          fun ty => Lib.run_clear_slice wr _ 64 ty (.int .u64 0) Tryd.underlying61 (by intro w; rfl) rfl rfl g i _ _ (by omega) (fun k hk => by rw [hrow.cellAt (i + k) (by omega)]; rw [show (cellsU L)[i + k]? = some ((cellsU L)[i + k]'(by rw [cellsU_len]; omega)) from List.getElem?_eq_getElem _]; rfl) (fun k hk => hrow.frozenAt _)
        obtain ⟨ys, hown, hys⟩ := own_setCells (List.replicate (xs.length - i) (.int .u64 0)) i wr (cellsU L) hrow
        have hcut := own_cut hown (Nat.le_of_lt hin)
        rw [hys, show (cellsU L).take i = cellsU (L.take i) from (List.map_take).symm, HFI.out] at hcut
        have HKN := Lib.hid (kind_setCells HST.out (List.replicate (xs.length - i) (.int .u64 0)) i wr hkw.out)
        have HIL : Hid ((xs.filter fun x => !p x).length = i) := by
          show _ = _
          rw [← HFI.out, List.length_take]; omega
        have HCUT := Lib.hid hcut
        clear hrow hdl hLl hown hys hcut
        go_wp2_with fail
        go_ret
        rw [HIL.out]
        exact ⟨_, c, rfl, HCUT.out, rfl, HKN.out⟩
      | succ g2 =>
        have hlt : j < xs.length := by omega
        have hlt' : (j : Int) < (xs.length : Int) := by omega
        obtain ⟨x, hx⟩ : ∃ x, xs[j]? = some x := ⟨_, List.getElem?_eq_getElem hlt⟩
        have f0 := hrow.cellAt j (by omega)
        rw [cellsU_at ((hdl.out.at_ hlt).trans hx)] at f0
        have HC := Lib.hid (HF.out wr hkw.out x (List.mem_of_getElem? hx))
        have HROW := Lib.hid hrow
        cases hp : p x with
        | true =>
          have HN := Lib.hid (hdl.out.skip hx hp)
          rw [hp] at HC
          clear hx hp hrow hLl
          go_wp2_with fail
          refine HC.out.mono ?_
          rintro e w2 ⟨rfl, b2⟩
          have HO2 := Lib.hid (own_below HROW.out b2)
          have HW2 := Lib.hid (HGO.out _ _ hkw.out b2)
          clear b2 f0
          go_wp2_with fail
          go_roundg g2
          case measure => omega
          case rel => exact ⟨i, j + 1, L, rfl, by go_num, by omega, by omega, HN, HO2.out, HW2⟩
        | false =>
          have HN := Lib.hid (hdl.out.keep hx hp)
          rw [hp] at HC
          have hii : i < xs.length := by omega
          have hii' : (i : Int) < (xs.length : Int) := by omega
          obtain ⟨y, hy⟩ : ∃ y, L[i]? = some y := ⟨_, List.getElem?_eq_getElem (by omega)⟩
          have HY := Lib.hid (cellsU_at hy)
          clear hx hp hy hrow hLl
          go_wp2_with fail
          refine HC.out.mono ?_
          rintro e w2 ⟨rfl, b2⟩
          have hrow2 := own_below HROW.out b2
          have HW2 := Lib.hid (HGO.out _ _ hkw.out b2)
          have f1 := hrow2.cellAt i (by omega)
          rw [HY.out] at f1
          have z1 := hrow2.frozenAt i
          have hst := (hrow2.stored i (.int .u64 (x : Int))).1
          rw [cellsU_set] at hst
          have HST2 := Lib.hid hst
          have HK2 := Lib.hid (HST.out w2 i (.int .u64 (x : Int)) HW2.out)
          clear b2 f0 hst hrow2
          go_wp2_with fail
          go_roundg g2
          case measure => omega
          case rel => exact ⟨i + 1, j + 1, L.set i x, by go_num, by go_num, by omega, by omega, HN, HST2.out, HK2⟩
end Go.Proofs.YthpodbhiopnnbaaDoor.ups

/- All lists of so many elements of a list, in order: mathematics. -/
namespace Go.Proofs.YthpodbhiopnnbaaDoor.ups
open Go.RowKit P2 words edges ints good adjs fns sets rets covs bitsI
set_option linter.unusedVariables false

/-- the lists of d elements of a list, in order -/
def chL : List Int → Nat → List (List Int)
  | _, 0 => [[]]
  | [], _ + 1 => []
  | x :: r, d + 1 => (chL r d).map (x :: ·) ++ chL r (d + 1)
theorem chL_len : ∀ (xs : List Int) (d : Nat), (chL xs d).length ≤ 2 ^ xs.length
  | xs, 0 => by unfold chL; exact Nat.one_le_two_pow
  | [], _ + 1 => by unfold chL; simp
  | x :: r, d + 1 => by
    unfold chL
    rw [List.length_append, List.length_map, List.length_cons, Nat.pow_succ]
    have := chL_len r d
    have := chL_len r (d + 1)
    omega
theorem chL_row : ∀ (xs : List Int) (d : Nat) (r : List Int), r ∈ chL xs d → r.length = d
  | xs, 0, r, h => by unfold chL at h; simp at h; subst h; rfl
  | [], _ + 1, r, h => by unfold chL at h; simp at h
  | x :: xs, d + 1, r, h => by
    unfold chL at h
    rcases List.mem_append.1 h with h | h
    · obtain ⟨q, hq, rfl⟩ := List.mem_map.1 h
      rw [List.length_cons, chL_row xs d q hq]
    · exact chL_row xs (d + 1) r h
theorem chL_short : ∀ (xs : List Int) (d : Nat), xs.length < d → chL xs d = []
  | xs, 0, h => by omega
  | [], _ + 1, h => by unfold chL; rfl
  | x :: xs, d + 1, h => by
    rw [List.length_cons] at h
    unfold chL
    rw [chL_short xs d (by omega), chL_short xs (d + 1) (by omega)]; rfl
theorem chL_drop {xs : List Int} {i : Nat} {x : Int} (h : xs[i]? = some x) (d : Nat) : chL (xs.drop i) (d + 1) = (chL (xs.drop (i + 1)) d).map (x :: ·) ++ chL (xs.drop (i + 1)) (d + 1) := by
  obtain ⟨h1, h2⟩ := List.getElem?_eq_some_iff.1 h
  rw [List.drop_eq_getElem_cons h1, h2]
  rfl
theorem take_cons {Ls : List (List Int)} {j : Nat} {L : List Int} (x : Int) (h : Ls[j]? = some L) : (Ls.take (j + 1)).map (x :: ·) = (Ls.take j).map (x :: ·) ++ [x :: L] := by
  rw [List.take_add_one, h, List.map_append]; rfl
/-- the sets of k of n nodes, in order -/
def setsK (n k : Nat) : List Nat := (setsN n k).filter (fun x => !decide (onesN x < k))
theorem chL_sets : ∀ n : Fin 9, ∀ k : Fin 9, chL (allN n.1) k.1 = rowN (setsK n.1 k.1) := by decide +kernel
theorem setsK_mem {n k c : Nat} (hn : n ≤ 8) (hk : k ≤ 8) : c ∈ setsK n k ↔ c < 2 ^ n ∧ onesN c = k := by
  unfold setsK
  rw [List.mem_filter, mem_sets hn hk]
  simp
  omega
theorem setsK_len {n k : Nat} (hn : n ≤ 8) (hk : k ≤ 8) : (setsK n k).length ≤ 256 := Nat.le_trans (List.length_filter_le _ _) (sets_len hn hk)
end Go.Proofs.YthpodbhiopnnbaaDoor.ups

/- The contract of the program's setsOf. -/
namespace Go.Proofs.YthpodbhiopnnbaaDoor.ups
open Go.RowKit P2 words edges ints owns good adjs fns sets rets covs bitsI func
set_option linter.unusedVariables false

set_option maxHeartbeats 1000000 in
set_option maxRecDepth 100000 in
theorem setsOfClo_any (k d b1 : Nat) (w : World) (h1 : w.cell? ⟨b1, 0, none⟩ = some (.int .i64 (k : Int))) (hd : d < 256) :
    Calls Tryd.prog 107 #[.int .u64 (d : Int), .pointer (some ⟨b1, 0, none⟩)] w fun e w' => e = .returned (.bool (decide (onesN d < k))) ∧ Below w.heap.size w w' := by
  have HCT := Lib.hid (fun (nq : Nat) => count_any d (w.drewN nq) hd)
  have HV : Hid (decide ((onesN d : Int) < (k : Int)) = decide (onesN d < k)) := by
    show _ = _
    rw [decide_eq_decide]; omega
  go_enter Tryd.func107, Tryd.ntmps107
  go_wp2_with fail
  go_quiet (first | (go_at_call 102; exact quiet_left (HCT.out _)))
  go_wp2_with fail
  go_ret
  exact ⟨ret_bool (by first | rfl | exact HV.out), below_drewN (Below.refl _ _) _⟩
set_option maxHeartbeats 2000000 in
set_option maxRecDepth 100000 in
theorem setsOf_own (n k : Nat) (w : World) (hn : n ≤ 8) (hk : k ≤ 8) :
    Calls Tryd.prog 86 #[.int .i64 (n : Int), .int .i64 (k : Int)] w fun e w' => ∃ A c, e = .returned (.slice A (setsK n k).length c) ∧ w'.ownsRow w.heap.size 64 1 (.slice A (setsK n k).length c) (setsK n k).length (cellsU (setsK n k)) ∧ Below w.heap.size w w' := by
  have hmf : ∀ (fn : Fn) (first cap : Array Value) (w : World), (Instr.makeFunc fn first cap).run Tryd.prog w = .ok (.func fn first cap) w := fun _ _ _ _ => rfl
  have b0 : Below w.heap.size w (w.alloc (.cells #[.int .i64 (k : Int)] 3)) := (Below.refl _ _).alloc (Nat.le_refl _) _
  have g0 := Blk.new w 3 #[.int .i64 (k : Int)]
  have p0 := g0.cell 0
  have HSU := Lib.hid (setsUpTo_own n k (w.alloc (.cells #[.int .i64 (k : Int)] 3)) hn hk)
  have HB0 := Lib.hid b0
  have HG0 := Lib.hid g0
  have hsl := sets_len hn hk
  have HM8 : Hid (∀ c ∈ setsN n k, c < 256) := fun c hc => Nat.lt_of_lt_of_le ((mem_sets hn hk).1 hc).1 (pow_le hn)
  have hz1 : (w.alloc (.cells #[.int .i64 (k : Int)] 3)).heap.size = w.heap.size + 1 := World.size_alloc _ _
  clear b0 g0
  have HZ1 := Lib.hid hz1
  clear hz1
  go_enter Tryd.func86, Tryd.ntmps86
  go_wp2_with fail
  refine HSU.out.mono ?_
  rintro e w2 ⟨A2, c2, rfl, o2, b2⟩
  have hg2 := HG0.out.below b2 HG0.out.lt
  have HDEL := Lib.hid (deleteFuncU_own w.heap.size (.slice A2 (setsN n k).length c2) (setsN n k) 107 #[.pointer (some ⟨w.heap.size, 0, none⟩)] (fun x => decide (onesN x < k)) (fun W => Below (w.heap.size + 1) w2 W ∧ w2.heap.size ≤ W.heap.size) w2 (own_base o2 (by rw [HZ1.out]; omega)) (by omega)
    { go := fun W W' h1 h2 => ⟨h1.1.trans (h2.mono (by have := b2.size; rw [HZ1.out] at this; have := h1.2; omega)), Nat.le_trans h1.2 h2.size⟩
      set := fun g hg W j u h => ⟨h.1.setCell (p := ⟨g, j, none⟩) (by have := (o2.lt g hg).1; rw [HZ1.out] at this; exact this) u, by simpa using h.2⟩ }
    { enter := fun _ _ => by kernel_rfl
      call := fun W hW x hx => setsOfClo_any k x w.heap.size W ((hW.1.cell (p := ⟨w.heap.size, 0, none⟩) (Nat.lt_succ_self _)).trans (hg2.cell 0)) (HM8.out x hx) } ⟨Below.refl _ _, Nat.le_refl _⟩)
  have hb2 := btrans HB0.out b2
  have HB2 := Lib.hid hb2
  have p1 := hg2.cell 0
  clear hb2 o2 b2 hg2 p0
  go_wp2_with fail
  refine HDEL.out.mono ?_
  rintro e w3 ⟨A3, c3, rfl, o3, -, hk3⟩
  go_wp2_with fail
  go_ret
  exact ⟨A3, c3, rfl, o3, HB2.out.trans (hk3.1.mono (by omega))⟩
end Go.Proofs.YthpodbhiopnnbaaDoor.ups

/- The contract of slices.Clone over words. -/
namespace Go.Proofs.YthpodbhiopnnbaaDoor.ups
open Go.RowKit P2 words edges ints good adjs fns sets rets covs bitsI apps
set_option linter.unusedVariables false

theorem oneC (l : List Nat) : ∀ x ∈ cellsU l, x.oneCell' = true := fun x hx => by
  obtain ⟨a, _, rfl⟩ := List.mem_map.1 hx
  rfl
theorem run_eql_nilC (w : World) (a : Option Addr) (n c : Nat) : (binOp .eql 61 (.slice a n c) (.slice none 0 0)).run Tryd.prog w = .ok (.bool a.isNone) w := by
  simp only [binOp]
  simp [run_equal_slice_nil w 61 _ a n c Tryd.underlying61]
theorem ownU_newC (w : World) : (w.alloc (.cells #[] 64)).ownsRow w.heap.size 64 1 (.slice (some ⟨w.heap.size, 0, none⟩) 0 0) 0 [] := own_new0 w _ 1
set_option maxHeartbeats 1000000 in
set_option maxRecDepth 100000 in
theorem cloneC_any (u : Value) (xs : List Nat) (w : World) (hu : Nums w u xs) (hxl : xs.length ≤ 1048576) :
    Calls Tryd.prog 87 #[u] w fun e w' => ∃ A c, e = .returned (.slice A xs.length c) ∧ w'.ownsRow w.heap.size 64 1 (.slice A xs.length c) xs.length (cellsU xs) ∧ Below w.heap.size w w' := by
  obtain ⟨i0, hi, hz0, hz1, hz2⟩ := info_parts infoU
  obtain ⟨A2, c2, rfl, hx⟩ := hu
  cases A2 with
  | none =>
    have h0 : xs.length = 0 := by
      rcases Nat.eq_zero_or_pos xs.length with h | h
      · exact h
      · obtain ⟨g, o, e, _⟩ := hx h; cases e
    obtain rfl : xs = [] := List.eq_nil_of_length_eq_zero h0
    have hnil := run_eql_nilC w none 0 c2
    clear hx h0
    go_enter Tryd.func87, Tryd.ntmps87
    go_wp2_with fail
    go_ret
    exact ⟨none, 0, rfl, World.ownsRow_nil _ _ _ _, Below.refl _ _⟩
  | some ad =>
    have hr : Reads w 1 (.slice (some ad) xs.length c2) xs.length (cellsU xs) := ⟨_, _, rfl, hx⟩
    have HR : Hid (Reads (w.alloc (.cells #[] 64)) 1 (.slice (some ad) xs.length c2) xs.length (cellsU xs)) := hr.below ((Below.refl _ _).alloc (Nat.le_refl _) _)
    have HO := Lib.hid (ownU_newC w)
    have HB : Hid (Below w.heap.size w (w.alloc (.cells #[] 64))) := (Below.refl _ _).alloc (Nat.le_refl _) _
    have hcl : Hid ((cellsU xs).length = xs.length * 1) := by show _ = _; simp [cellsU]
    have hnil := run_eql_nilC w (some ad) xs.length c2
    clear hx hr
    go_enter Tryd.func87, Tryd.ntmps87
    go_wp2_with (at_builtin; refine wpList_append_any _ rfl (.tmp 5) (.tmp 6) 61 rfl w.heap.size 64 i0 (.int .u64 0) 1 8 Tryd.underlying61 hi hz0 hz1 hz2 rfl (by decide) _ _ _ rfl HO.out (.slice (some ad) xs.length c2) xs.length (cellsU xs) rfl HR.out hcl.out (oneC _) (by unfold maxLen; omega) (by omega) (by simp) ?_; intro v2 w4 o4 gr4)
    rw [Nat.zero_add, List.nil_append] at o4
    obtain ⟨A4, c4, rfl⟩ := own_form o4
    have HB4 := Lib.hid (HB.out.grown gr4 (by simp) (fun j e => (HO.out.lt j e).1))
    have HO4 := Lib.hid o4
    clear gr4 o4
    go_wp2_with fail
    go_ret
    exact ⟨A4, c4, by simp, HO4.out, HB4.out⟩
end Go.Proofs.YthpodbhiopnnbaaDoor.ups

/- Guards: the contracts of the program's watchIn, isAnswer and answers. -/
namespace Go.Proofs.YthpodbhiopnnbaaDoor.ups
open Go.RowKit P2 words edges ints good adjs fns sets rets covs bags bitsI func lists least
set_option linter.unusedVariables false

theorem blkW {w : World} {g : Nat} {t : TypeId} {a b c : Value} (h : Blk w g t #[a, b, c]) : w.cell? ⟨g, 0, none⟩ = some a ∧ w.cell? ⟨g, 1, none⟩ = some b ∧ w.cell? ⟨g, 2, none⟩ = some c := ⟨h.cell 0, h.cell 1, h.cell 2⟩
/-- the value of a game of guards -/
def watV (all : Bool) (vc vs : Value) : Value := .agg #[vc, .func (.func (ruleF all)) #[] #[], vs]
/-- a set of guards answers an attack -/
def ansB (l : List Ed) (all : Bool) (x a b : Nat) : Bool := b.testBit x && mvB l all a b
theorem fin_watch {w w4 : World} {R O n1 n2 : Nat} {vc f vs a b : Value} {xs1 xs2 : List Value} {B1 B2 : Nat} (hr : Blk w4 R 74 #[.slice none 0 0, .nilFunc, .slice none 0 0]) (ho : Blk w4 O 29 #[a, b]) (hOR : O ≠ R)
    (hc : w4.ownsRow B1 64 1 vc n1 xs1) (hs : w4.ownsRow B2 64 1 vs n2 xs2) (hB : Below w.heap.size w w4) (hR : w.heap.size ≤ R) :
    ∃ w5, w5 = ((w4.setCell ⟨R, 0, none⟩ vc).setCell ⟨R, 1, none⟩ f).setCell ⟨R, 2, none⟩ vs ∧ Blk w5 R 74 #[vc, f, vs] ∧ Blk w5 O 29 #[a, b] ∧ w5.ownsRow B1 64 1 vc n1 xs1 ∧ w5.ownsRow B2 64 1 vs n2 xs2 ∧ Below w.heap.size w w5 := by
  have k5 : w4.grownBy (((w4.setCell ⟨R, 0, none⟩ vc).setCell ⟨R, 1, none⟩ f).setCell ⟨R, 2, none⟩ vs) (some R) := gset (gset (gset (World.grownBy.refl w4 (some R)) 0 vc) 1 f) 2 vs
  have h1 := ((hr.set_ 0 vc).set_ 1 f).set_ 2 vs
  exact ⟨_, rfl, by simpa using h1, ho.grown k5 (fun e => hOR (by simpa using e)), hc.kept k5 (.inr (mids.own_ne hc hr (by decide))), hs.kept k5 (.inr (mids.own_ne hs hr (by decide))), ((hB.setCell (p := ⟨R, 0, none⟩) hR vc).setCell (p := ⟨R, 1, none⟩) hR f).setCell (p := ⟨R, 2, none⟩) hR vs⟩
set_option maxHeartbeats 4000000 in
set_option maxRecDepth 100000 in
theorem watchIn_any (n k : Nat) (all : Bool) (v : Value) (l : List Ed) (w : World) (h : Edges w v l) (hl : l.length ≤ 1048576) (hg : P2.Good (n : Int) l) (hn : n ≤ 8) (hk : k ≤ 8) :
    Calls Tryd.prog 50 #[.agg #[.int .i64 (n : Int), v], .int .i64 (k : Int), .bool all] w fun e w' => ∃ A3 c3 A4 c4, e = .returned (watV all (.slice A3 (clos l n).length c3) (.slice A4 (setsK n k).length c4)) ∧ Nums w' (.slice A3 (clos l n).length c3) (clos l n) ∧
      w'.ownsRow w.heap.size 64 1 (.slice A4 (setsK n k).length c4) (setsK n k).length (cellsU (setsK n k)) ∧ Below w.heap.size w w' := by
  obtain ⟨A, c, rfl, -⟩ := h.form
  have H := Lib.hid h
  have b0 : Below w.heap.size w ((w.alloc (.cells #[.int .i64 (n : Int), .slice A l.length c] 29)).alloc (.cells #[.slice none 0 0, .nilFunc, .slice none 0 0] 74)) := ((Below.refl _ _).alloc (Nat.le_refl _) _).alloc (by simp) _
  have g0 := (Blk.new w 29 #[.int .i64 (n : Int), .slice A l.length c]).alloc (.cells #[.slice none 0 0, .nilFunc, .slice none 0 0] 74)
  have r0 := Blk.new (w.alloc (.cells #[.int .i64 (n : Int), .slice A l.length c] 29)) 74 #[.slice none 0 0, .nilFunc, .slice none 0 0]
  rw [World.size_alloc] at r0
  obtain ⟨p0, p1, -, -⟩ := g0.two
  have HB0 := Lib.hid b0
  have HG0 := Lib.hid g0
  have HR0 := Lib.hid r0
  have HCB := Lib.hid (fun (W : World) (hW : Below w.heap.size w W) => closedBits_own n (.slice A l.length c) l W (H.out.below hW) hl hg hn)
  have HRU := Lib.hid (fun (W : World) => ruleOf_any all W)
  have HSE := Lib.hid (fun (W : World) => setsOf_own n k W hn hk)
  clear h b0 g0 r0 hg
  generalize hW0 : (w.alloc (.cells #[.int .i64 (n : Int), .slice A l.length c] 29)).alloc (.cells #[.slice none 0 0, .nilFunc, .slice none 0 0] 74) = W0 at *
  have HW0 := Lib.hid hW0
  clear hW0
  go_enter Tryd.func50, Tryd.ntmps50
  go_wp2_with fail
  rw [HW0.out]
  refine wp_region_held_drew (S := (fun w' : World => w'.cell? ⟨w.heap.size, 0, none⟩ = some (.int .i64 (n : Int)) ∧ w'.cell? ⟨w.heap.size, 1, none⟩ = some (.slice A l.length c))) (by kernel_rfl) (by (try dsimp only); simp [*]) (fun hHeld => ?_)
  change wpAnyH _ _ _ _ _ _ #[false, false, false, false, false, false, false, false, false, false] _ _
  refine wpAnyH_take (i := 0) (oi := ⟨some 7, _, _, _, _, _⟩) (v := ?_) rfl (by kernel_rfl) (by kernel_rfl) (by kernel_rfl) (fun _ _ _ h => h) (Or.inl ⟨by rfl, ?_⟩) (by assumption) ?_
  rotate_left
  · (intro w hSw; (try dsimp only at hSw); go_simp; (try (with_reducible rfl)))
  try simp only [Act.put, List.setIfInBounds_toArray, List.set_cons_zero, List.set_cons_succ]
  refine wpAnyH_take (i := 2) (oi := ⟨some 9, _, _, _, _, _⟩) (v := ?_) rfl (by kernel_rfl) (by kernel_rfl) (by kernel_rfl) (fun _ _ _ h => h) (Or.inl ⟨by rfl, ?_⟩) (by assumption) ?_
  rotate_left
  · (intro w hSw; (try dsimp only at hSw); go_simp; (try (with_reducible rfl)))
  try simp only [Act.put, List.setIfInBounds_toArray, List.set_cons_zero, List.set_cons_succ]
  refine wpAnyH_take (i := 4) (oi := ⟨some 11, _, _, _, _, _⟩) (v := ?_) rfl (by kernel_rfl) (by kernel_rfl) (by kernel_rfl) (fun _ _ _ h => h) (Or.inl ⟨by rfl, ?_⟩) (by assumption) ?_
  rotate_left
  · (intro w hSw; (try dsimp only at hSw); go_simp; (try (with_reducible rfl)))
  try simp only [Act.put, List.setIfInBounds_toArray, List.set_cons_zero, List.set_cons_succ]
  refine wpAnyH_take (i := 5) (oi := ⟨some 12, _, _, _, _, _⟩) (v := ?_) rfl (by kernel_rfl) (by kernel_rfl) (by kernel_rfl) (fun _ _ _ h => h) (Or.inl ⟨by rfl, ?_⟩) (by assumption) ?_
  rotate_left
  · (intro w hSw; (try dsimp only at hSw); go_simp; (try (with_reducible rfl)))
  try simp only [Act.put, List.setIfInBounds_toArray, List.set_cons_zero, List.set_cons_succ]
  refine wpAnyH_take (i := 6) (oi := ⟨some 13, _, _, _, _, _⟩) (v := ?_) rfl (by kernel_rfl) (by kernel_rfl) (by kernel_rfl) (fun _ _ _ h => h) (Or.inl ⟨by rfl, ?_⟩) (by assumption) ?_
  rotate_left
  · (intro w hSw; (try dsimp only at hSw); go_simp; (try (with_reducible rfl)))
  try simp only [Act.put, List.setIfInBounds_toArray, List.set_cons_zero, List.set_cons_succ]
  refine wpAnyH_ready (rs := [1]) (by kernel_rfl) (by simp) ?_
  refine AllReadyH.cons (o := ⟨some 8, _, _, _, _, _⟩) rfl (fun K hK => ?_) AllReadyH.nil
  go_simp
  (with_reducible refine (HCB.out _ HB0.out.drew).mono ?_); rintro e w3 ⟨A3, c3, rfl, o3, b3⟩; have d3 : Below W0.heap.size W0 w3 := btrans (Below.refl _ _).drew b3; have HE3 := Lib.hid (btrans HB0.out d3); have HG3 := Lib.hid (HG0.out.below d3 HG0.out.lt); have HR3 := Lib.hid (HR0.out.below d3 HR0.out.lt); obtain ⟨k0, k1, -, -⟩ := HG3.out.two
  go_wp2_with fail
  refine hK.out _ _ (by (try dsimp only); simp [*]) (fun hHeld => ?_)
  clear hK K
  try simp only [List.setIfInBounds_toArray, List.set_cons_zero, List.set_cons_succ]
  refine wpAnyH_ready (rs := [3]) (by kernel_rfl) (by simp) ?_
  refine AllReadyH.cons (o := ⟨some 10, _, _, _, _, _⟩) rfl (fun K hK => ?_) AllReadyH.nil
  go_simp
  (with_reducible refine (HRU.out w3).mono ?_); rintro e w4 ⟨rfl, rfl⟩
  go_wp2_with fail
  refine hK.out _ _ (by (try dsimp only); simp [*]) (fun hHeld => ?_)
  clear hK K
  try simp only [List.setIfInBounds_toArray, List.set_cons_zero, List.set_cons_succ]
  refine wpAnyH_ready (rs := [7]) (by kernel_rfl) (by simp) ?_
  refine AllReadyH.cons (o := ⟨some 14, _, _, _, _, _⟩) rfl (fun K hK => ?_) AllReadyH.nil
  go_simp
  (with_reducible refine (HSE.out w3).mono ?_); rintro e w4 ⟨A4, c4, rfl, o4, b4⟩; have HG4 := Lib.hid (HG3.out.below b4 HG3.out.lt); have hr4 := HR3.out.below b4 HR3.out.lt; obtain ⟨i0, i1, -, -⟩ := HG4.out.two; have hs3 := HE3.out.size; have hz3 := b3.size; have FN := Lib.hid (fin_watch (w := w) (f := .func (.func (ruleF all)) #[] #[]) hr4 HG4.out (by omega) (own_below o3 b4) (own_base (B' := w.heap.size) o4 hs3) (btrans HE3.out b4) (Nat.le_succ _)); obtain ⟨r0, r1, r2⟩ := blkW hr4; have y0 := hr4.frozen 0; have y1 := hr4.frozen 1; have y2 := hr4.frozen 2
  go_wp2_with fail
  refine hK.out _ _ (by (try dsimp only); simp [*]) (fun hHeld => ?_)
  clear hK K
  try simp only [List.setIfInBounds_toArray, List.set_cons_zero, List.set_cons_succ]
  refine wpAnyH_take (i := 8) (oi := ⟨some 15, _, _, _, _, _⟩) (v := ?_) rfl (by kernel_rfl) (by kernel_rfl) (by kernel_rfl) (fun _ _ _ h => h) (Or.inl ⟨by rfl, ?_⟩) (by assumption) ?_
  rotate_left
  · (intro w hSw; (try dsimp only at hSw); go_simp; (try (with_reducible rfl)))
  try simp only [Act.put, List.setIfInBounds_toArray, List.set_cons_zero, List.set_cons_succ]
  refine wpAnyH_ready (rs := [9]) (by kernel_rfl) (by simp) ?_
  refine AllReadyH.cons rfl (fun K hK => ?_) AllReadyH.nil
  go_simp
  refine hK.out _ _ (by obtain ⟨w5, e5, _, hg5, _⟩ := FN.out; rw [← e5]; exact ⟨hg5.cell 0, hg5.cell 1⟩) (fun hHeld => ?_)
  clear hK K
  refine wpAnyH_done (by kernel_rfl) ?_ _
  go_wp2_with fail
  obtain ⟨w5, e5, hb5, _, hc5, hs5, hB5⟩ := FN.out
  rw [← e5]
  obtain ⟨q0, q1, q2⟩ := blkW hb5
  have hlen := clos_len l n
  refine bodyPost_ret (v := .agg #[.slice A3 n c3, .func (.func (ruleF all)) #[] #[], .slice A4 (setsK n k).length c4]) (by simp [results, Tryd.results50, go_sem, q0, q1, q2]) rfl ⟨A3, c3, A4, c4, by unfold watV; rw [hlen], by rw [hlen]; have h_ := Reads.of_own hc5; unfold Nums; rw [hlen]; exact h_, hs5, hB5⟩
set_option maxHeartbeats 2000000 in
set_option maxRecDepth 100000 in
theorem isAnswer_any (n a b x : Nat) (all : Bool) (vc vs : Value) (l : List Ed) (w : World) (hE : Env w) (hc : Nums w vc (clos l n)) (hg : P2.Good (n : Int) l) (hn : n ≤ 8) (ha : a < 2 ^ n) (hb : b < 2 ^ n) (hx : x ≤ 8) :
    Calls Tryd.prog 89 #[watV all vc vs, .int .u64 (a : Int), .int .u64 (b : Int), .int .i64 (x : Int)] w fun e w' => e = .returned (.bool (ansB l all x a b)) ∧ Below w.heap.size w w' := by
  have hmv := rule_mv hg hn all
  have hent := hmv.enter
  have HB0 : Hid (Below w.heap.size w (w.alloc (.cells #[vc, .func (.func (ruleF all)) #[] #[], vs] 74))) := (Below.refl _ _).alloc (Nat.le_refl _) _
  have HG0 := Lib.hid (Blk.new w 74 #[vc, .func (.func (ruleF all)) #[] #[], vs])
  obtain ⟨p0, p1, p2⟩ := blkW HG0.out
  have HMV := Lib.hid (hmv.call _ vc a b (hc.below HB0.out) (hE.next HB0.out) ha hb)
  have hb8 := Nat.lt_of_lt_of_le hb (pow_le hn)
  have HH := Lib.hid (fun (W : World) => has_any b x W (by omega) hx)
  unfold watV
  clear hmv hc hg hE
  cases hbt : b.testBit x with
  | true =>
    have HV : Hid (ansB l all x a b = mvB l all a b) := by show _ = _; unfold ansB; rw [hbt]; rfl
    rw [hbt] at HH
    clear hbt
    generalize mvB l all a b = res at *
    generalize ruleF all = rf at *
    go_enter Tryd.func89, Tryd.ntmps89
    go_wp2_with fail
    refine (HH.out _).mono ?_
    rintro e w' ⟨rfl, rfl⟩
    go_wp2_with fail
    refine HMV.out.mono ?_
    rintro e w1 ⟨rfl, b1⟩
    go_wp2_with fail
    go_ret
    rw [HV.out]
    exact ⟨rfl, btrans HB0.out b1⟩
  | false =>
    have HV : Hid (ansB l all x a b = false) := by show _ = _; unfold ansB; rw [hbt]; rfl
    rw [hbt] at HH
    clear hbt
    go_enter Tryd.func89, Tryd.ntmps89
    go_wp2_with fail
    refine (HH.out _).mono ?_
    rintro e w' ⟨rfl, rfl⟩
    go_wp2_with fail
    go_ret
    rw [HV.out]
    exact ⟨rfl, HB0.out⟩
set_option maxHeartbeats 2000000 in
set_option maxRecDepth 100000 in
theorem answersClo_any (n a b x : Nat) (b1 b2 b3 : Nat) (all : Bool) (vc vs : Value) (l : List Ed) (w : World) (h1 : Blk w b1 74 #[vc, .func (.func (ruleF all)) #[] #[], vs]) (h2 : w.cell? ⟨b2, 0, none⟩ = some (.int .u64 (a : Int))) (h3 : w.cell? ⟨b3, 0, none⟩ = some (.int .i64 (x : Int))) (hE : Env w) (hc : Nums w vc (clos l n)) (hg : P2.Good (n : Int) l) (hn : n ≤ 8) (ha : a < 2 ^ n) (hb : b < 2 ^ n) (hx : x ≤ 8) :
    Calls Tryd.prog 88 #[.int .u64 (b : Int), .pointer (some ⟨b1, 0, none⟩), .pointer (some ⟨b2, 0, none⟩), .pointer (some ⟨b3, 0, none⟩)] w fun e w' => e = .returned (.bool (!ansB l all x a b)) ∧ Below w.heap.size w w' := by
  obtain ⟨p0, p1, p2⟩ := blkW h1
  have HI := Lib.hid (isAnswer_any n a b x all vc vs l w hE hc hg hn ha hb hx)
  unfold watV at HI
  clear hE hc hg h1
  go_enter Tryd.func88, Tryd.ntmps88
  go_wp2_with fail
  refine HI.out.mono ?_
  rintro e w1 ⟨rfl, b1⟩
  go_wp2_with fail
  go_ret
  exact ⟨rfl, b1⟩
set_option maxHeartbeats 4000000 in
set_option maxRecDepth 100000 in
theorem answers_any (n a x : Nat) (all : Bool) (vc vs : Value) (L : List Nat) (l : List Ed) (w : World) (hE : Env w) (hc : Nums w vc (clos l n)) (hs : Nums w vs L) (hL : ∀ c ∈ L, c < 2 ^ n) (hLl : L.length ≤ 1048576) (hg : P2.Good (n : Int) l) (hn : n ≤ 8) (ha : a < 2 ^ n) (hx : x ≤ 8) :
    Calls Tryd.prog 51 #[watV all vc vs, .int .u64 (a : Int), .int .i64 (x : Int)] w fun e w' => ∃ A c, e = .returned (.slice A (L.filter (ansB l all x a)).length c) ∧ w'.ownsRow w.heap.size 64 1 (.slice A (L.filter (ansB l all x a)).length c) (L.filter (ansB l all x a)).length (cellsU (L.filter (ansB l all x a))) ∧ Below w.heap.size w w' := by
  have hmf : ∀ (fn : Fn) (first cap : Array Value) (w : World), (Instr.makeFunc fn first cap).run Tryd.prog w = .ok (.func fn first cap) w := fun _ _ _ _ => rfl
  obtain ⟨W0, hW0⟩ : ∃ W0, W0 = ((w.alloc (.cells #[vc, .func (.func (ruleF all)) #[] #[], vs] 74)).alloc (.cells #[.int .u64 (a : Int)] 64)).alloc (.cells #[.int .i64 (x : Int)] 3) := ⟨_, rfl⟩
  have b0 : Below w.heap.size w W0 := by rw [hW0]; exact (((Below.refl _ _).alloc (Nat.le_refl _) _).alloc (by simp) _).alloc (by simp; omega) _
  have g1 : Blk W0 w.heap.size 74 #[vc, .func (.func (ruleF all)) #[] #[], vs] := by rw [hW0]; exact ((Blk.new w 74 #[vc, .func (.func (ruleF all)) #[] #[], vs]).alloc _).alloc _
  have g2 : Blk W0 (w.heap.size + 1) 64 #[.int .u64 (a : Int)] := by
    have h_ := (Blk.new (w.alloc (.cells #[vc, .func (.func (ruleF all)) #[] #[], vs] 74)) 64 #[.int .u64 (a : Int)]).alloc (.cells #[.int .i64 (x : Int)] 3)
    rw [World.size_alloc] at h_
    rw [hW0]; exact h_
  have g3 : Blk W0 (w.heap.size + 2) 3 #[.int .i64 (x : Int)] := by
    have h_ := Blk.new ((w.alloc (.cells #[vc, .func (.func (ruleF all)) #[] #[], vs] 74)).alloc (.cells #[.int .u64 (a : Int)] 64)) 3 #[.int .i64 (x : Int)]
    rw [World.size_alloc, World.size_alloc] at h_
    rw [hW0]; exact h_
  have hz : W0.heap.size = w.heap.size + 3 := by rw [hW0]; simp
  obtain ⟨p0, p1, p2⟩ := blkW g1
  have HCL := Lib.hid (cloneC_any vs L W0 (hs.below b0) hLl)
  have HB0 := Lib.hid b0
  have HG1 := Lib.hid g1
  have HG2 := Lib.hid g2
  have HG3 := Lib.hid g3
  have HE0 := Lib.hid (hE.next b0)
  have HC0 := Lib.hid (hc.below b0)
  have HGD := Lib.hid hg
  have HLM := Lib.hid hL
  have HZ := Lib.hid hz
  have HF : Hid (L.filter (fun b => !!ansB l all x a b) = L.filter (ansB l all x a)) := by
    show _ = _
    congr 1; funext b; rw [Bool.not_not]
  have HW0 := Lib.hid hW0
  unfold watV
  clear hE hc hs hL hg b0 g1 g2 g3 hz hW0
  go_enter Tryd.func51, Tryd.ntmps51
  rw [HW0.out] at p0 p1 p2
  go_wp2_with fail
  rw [← HW0.out]
  refine HCL.out.mono ?_
  rintro e w2 ⟨A2, c2, rfl, o2, b2⟩
  have HDEL := Lib.hid (deleteFuncU_own W0.heap.size (.slice A2 L.length c2) L 88 #[.pointer (some ⟨w.heap.size, 0, none⟩), .pointer (some ⟨w.heap.size + 1, 0, none⟩), .pointer (some ⟨w.heap.size + 2, 0, none⟩)] (fun b => !ansB l all x a b) (fun W => Below W0.heap.size W0 W) w2 o2 hLl
    { go := fun W W' h1 h2 => h1.trans (h2.mono h1.size)
      set := fun g hg W j u h => h.setCell (p := ⟨g, j, none⟩) (o2.lt g hg).1 u }
    { enter := fun _ _ => by kernel_rfl
      call := fun W hW b hb => answersClo_any n a b x w.heap.size (w.heap.size + 1) (w.heap.size + 2) all vc vs l W (HG1.out.below hW HG1.out.lt) ((HG2.out.below hW HG2.out.lt).cell 0) ((HG3.out.below hW HG3.out.lt).cell 0) (HE0.out.next hW) (HC0.out.below hW) HGD.out hn ha (HLM.out b hb) hx } b2)
  rw [HF.out] at HDEL
  clear p0 p1 p2 o2 b2
  go_wp2_with fail
  refine HDEL.out.mono ?_
  rintro e w3 ⟨A3, c3, rfl, o3, -, hk3⟩
  go_wp2_with fail
  go_ret
  exact ⟨A3, c3, rfl, own_base o3 HB0.out.size, HB0.out.trans (hk3.mono HB0.out.size)⟩
end Go.Proofs.YthpodbhiopnnbaaDoor.ups

/- Guards: resistances: mathematics. -/
namespace Go.Proofs.YthpodbhiopnnbaaDoor.ups
open Go.RowKit P2 words edges ints good adjs fns sets rets covs bitsI
set_option linter.unusedVariables false

/-- each attack has an answer among some sets -/
def holdB (n : Nat) (l : List Ed) (all : Bool) (U : List Nat) (a : Nat) : Bool := (List.range n).all fun x => a.testBit x || U.any (ansB l all x a)
/-- the sets that withstand so many attacks -/
def usN (n : Nat) (l : List Ed) (all : Bool) (L : List Nat) : Nat → List Nat
  | 0 => L
  | t + 1 => (usN n l all L t).filter (holdB n l all (usN n l all L t))
theorem us_sub {n : Nat} {l : List Ed} {all : Bool} {L : List Nat} {a : Nat} : ∀ {t d : Nat}, a ∈ usN n l all L (t + d) → a ∈ usN n l all L t
  | t, 0, h => h
  | t, d + 1, h => us_sub (d := d) (List.mem_filter.1 (show a ∈ (usN n l all L (t + d)).filter _ from h)).1
theorem us_mem {n : Nat} {l : List Ed} {all : Bool} {L : List Nat} {a t : Nat} (h : a ∈ usN n l all L t) : a ∈ L := by
  have := us_sub (t := 0) (d := t) (by rw [Nat.zero_add]; exact h)
  exact this
/-- after so many attacks the guards can be beaten -/
def Dep (n : Nat) (l : List Ed) (all : Bool) (L : List Nat) (a t : Nat) : Prop := a ∈ usN n l all L t ∧ a ∉ usN n l all L (t + 1)
theorem dep_same {n : Nat} {l : List Ed} {all : Bool} {L : List Nat} {a t s : Nat} (h : Dep n l all L a t) (k : Dep n l all L a s) : t = s := by
  rcases Nat.lt_trichotomy t s with e | e | e
  · exact absurd (us_sub (t := t + 1) (d := s - (t + 1)) (by rw [show t + 1 + (s - (t + 1)) = s from by omega]; exact k.1)) h.2
  · exact e
  · exact absurd (us_sub (t := s + 1) (d := t - (s + 1)) (by rw [show s + 1 + (t - (s + 1)) = t from by omega]; exact h.1)) k.2
/-- the resistance of a set -/
noncomputable def resV (n : Nat) (l : List Ed) (all : Bool) (L : List Nat) (a : Nat) : Int := if okG (∃ t, Dep n l all L a t) = true then ((Classical.epsilon fun t => Dep n l all L a t : Nat) : Int) else -1
theorem resV_dep {n : Nat} {l : List Ed} {all : Bool} {L : List Nat} {a t : Nat} (h : Dep n l all L a t) : resV n l all L a = (t : Int) := by
  unfold resV
  rw [if_pos (okG_yes ⟨t, h⟩), dep_same (Classical.epsilon_spec (p := fun t => Dep n l all L a t) ⟨t, h⟩) h]
theorem us_stable {n : Nat} {l : List Ed} {all : Bool} {L : List Nat} {t : Nat} (h : usN n l all L (t + 1) = usN n l all L t) : ∀ d, usN n l all L (t + d) = usN n l all L t
  | 0 => rfl
  | d + 1 => by
    show (usN n l all L (t + d)).filter (holdB n l all (usN n l all L (t + d))) = _
    rw [us_stable h d]
    exact h
theorem resV_in {n : Nat} {l : List Ed} {all : Bool} {L : List Nat} {a t : Nat} (hs : usN n l all L (t + 1) = usN n l all L t) (h : a ∈ usN n l all L t) : resV n l all L a = -1 := by
  have hn : ¬ ∃ s, Dep n l all L a s := fun ⟨s, h1, h2⟩ => by
    apply h2
    by_cases e : s + 1 ≤ t
    · exact us_sub (t := s + 1) (d := t - (s + 1)) (by rw [show s + 1 + (t - (s + 1)) = t from by omega]; exact h)
    · have := us_stable hs (s + 1 - t)
      rw [show t + (s + 1 - t) = s + 1 from by omega] at this
      rw [this]; exact h
  unfold resV
  rw [okG_no hn]; rfl
theorem us_fix {n : Nat} {l : List Ed} {all : Bool} {L : List Nat} {t : Nat} (h : (usN n l all L (t + 1)).length = (usN n l all L t).length) : usN n l all L (t + 1) = usN n l all L t :=
  List.filter_eq_self.2 (List.length_filter_eq_length_iff.1 h)
theorem us_len {n : Nat} {l : List Ed} {all : Bool} {L : List Nat} (t : Nat) : (usN n l all L (t + 1)).length ≤ (usN n l all L t).length := List.length_filter_le _ _
/-- not stable before t -/
def Goes (n : Nat) (l : List Ed) (all : Bool) (L : List Nat) (t : Nat) : Prop := (usN n l all L t).length + t ≤ L.length
theorem Goes.zero (n : Nat) (l : List Ed) (all : Bool) (L : List Nat) : Goes n l all L 0 := Nat.le_refl _
theorem Goes.next {n : Nat} {l : List Ed} {all : Bool} {L : List Nat} {t : Nat} (h : Goes n l all L t) (hn : ¬ (usN n l all L (t + 1)).length = (usN n l all L t).length) : Goes n l all L (t + 1) := by
  have := us_len (n := n) (l := l) (all := all) (L := L) t
  unfold Goes at h ⊢
  omega
end Go.Proofs.YthpodbhiopnnbaaDoor.ups

/- The contract of the model's l8Choices. -/
namespace Go.Proofs.YthpodbhiopnnbaaDoor.ups
open Go.RowKit P2 words edges ints owns good adjs fns sets rets covs bitsI func apps grid gridr gridl trip lists
set_option linter.unusedVariables false

/-- a table of the call's own -/
def RetX (w : World) (rows : List (List Int)) (e : Ending) (w' : World) : Prop :=
  ∃ A c us, e = .returned (.slice A rows.length c) ∧ OwnG w' w.heap.size (.slice A rows.length c) us rows ∧ Below w.heap.size w w'
set_option maxHeartbeats 8000000 in
set_option maxRecDepth 100000 in
theorem l8Choices_any : ∀ (d : Nat), d ≤ 9 → ∀ (u : Value) (xs : List Int) (w : World), Ints w u xs → xs.length ≤ 8 →
    Calls Tryd.prog 82 #[u, .int .i64 (d : Int)] w (RetX w (chL xs d)) := by
  intro d
  induction d with
  | zero =>
    intro _ u xs w hu hxl
    have HO0 : Hid (OwnG ((w.alloc (.cells #[] 3)).alloc (.cells #[.slice (some ⟨w.heap.size, 0, none⟩) 0 0] 25)) w.heap.size (.slice (some ⟨w.heap.size + 1, 0, none⟩) 1 1) [.slice (some ⟨w.heap.size, 0, none⟩) 0 0] [[]]) := by
      have h_ := World.ownsRow_lit (size := 1) (base := w.heap.size) (e := 25) (w.alloc (.cells #[] 3)) #[.slice (some ⟨w.heap.size, 0, none⟩) 0 0] 1 (by simp) (by unfold maxLen; omega) rfl
      rw [World.size_alloc] at h_
      refine ⟨h_, ?_, ?_⟩
      · intro i u r hu hr
        cases i with
        | zero => cases hu; cases hr; exact (own_new0 w 3 1).alloc _
        | succ i => simp at hu
      · intro i j u u' k hij hu hu'
        cases j with
        | zero => omega
        | succ j => simp at hu'
    have HB0 : Hid (Below w.heap.size w ((w.alloc (.cells #[] 3)).alloc (.cells #[.slice (some ⟨w.heap.size, 0, none⟩) 0 0] 25))) := ((Below.refl _ _).alloc (Nat.le_refl _) _).alloc (by simp) _
    have HV : Hid (chL xs 0 = [[]]) := by show _ = _; unfold chL; rfl
    go_enter Tryd.func82, Tryd.ntmps82
    go_wp2_with fail
    go_ret
    rw [HV.out]
    exact ⟨_, _, _, rfl, HO0.out, HB0.out⟩
  | succ d ih =>
    intro hd u xs w hu hxl
    obtain ⟨i0, hi, hz0, hz1, hz2⟩ := info_parts infoInt
    obtain ⟨i1, hi1, hy0, hy1, hy2⟩ := info_parts infoRow
    have HIH := Lib.hid (ih (by omega))
    obtain ⟨A, c, rfl, hcx⟩ := hu.form
    have HU := Lib.hid hu
    have HCX := Lib.hid hcx
    have hwr : IntKind.i64.wrap (((d + 1 : Nat) : Int) - 1) = (d : Int) := by
      rw [show ((d + 1 : Nat) : Int) - 1 = (d : Int) from by omega]; exact IntWalk.i64_in _ (by omega)
    have d0 : (((d + 1 : Nat) : Int) == 0) = false := by simp; omega
    have hkk9 : ((d + 1 : Nat) : Int) ≤ 9 := by omega
    have hkk0 : 0 ≤ ((d + 1 : Nat) : Int) := by omega
    have HSH : Hid (∀ i : Nat, ¬ ((i : Int) + ((d + 1 : Nat) : Int) ≤ (xs.length : Int)) → chL (xs.drop i) (d + 1) = []) := fun i hh => chL_short _ _ (by rw [List.length_drop]; omega)
    have HLT : Hid (∀ i : Nat, ((i : Int) + ((d + 1 : Nat) : Int) ≤ (xs.length : Int)) → i < xs.length) := fun i hh => by omega
    generalize hkk : ((d + 1 : Nat) : Int) = kk at *
    have HTL : Hid ((chL xs (d + 1)).length ≤ 256) := by
      have := chL_len xs (d + 1)
      have h2 := Nat.pow_le_pow_right (show 0 < 2 by decide) hxl
      show _ ≤ _
      omega
    have HO0 : Hid (OwnG (w.alloc (.cells #[] 25)) w.heap.size (.slice (some ⟨w.heap.size, 0, none⟩) 0 0) [] []) := ⟨own_new0 w 25 1, fun i u r hu => by simp at hu, fun i j u u' k _ hu => by simp at hu⟩
    have HB0 : Hid (Below w.heap.size w (w.alloc (.cells #[] 25))) := (Below.refl _ _).alloc (Nat.le_refl _) _
    have HE0 : Hid (([] : List (List Int)) ++ chL (xs.drop 0) (d + 1) = chL xs (d + 1)) := rfl
    clear ih hkk hu hcx
    go_enter Tryd.func82, Tryd.ntmps82
    go_wp2_with fail
    go_loopg [5, 6] xs.length (fun g ov iv wr => ∃ (i : Nat) (ow : Value) (us : List Value) (O : List (List Int)), ow = ov ∧ i + g = xs.length ∧ iv = .int .i64 (i : Int) ∧ OwnG wr w.heap.size ow us O ∧ Hid (O ++ chL (xs.drop i) (d + 1) = chL xs (d + 1)) ∧ Below w.heap.size w wr)
    case atStart => exact ⟨0, _, [], [], rfl, by omega, rfl, HO0.out, HE0, HB0.out⟩
    case round =>
      clear HO0 HB0 HE0
      obtain ⟨i, ow, us, O, rfl, hig, rfl, hG, he, hB⟩ := hrel
      obtain ⟨A4, c4, rfl⟩ := own_form hG.1
      have hil : i ≤ xs.length := by omega
      have hwi : IntKind.i64.wrap ((i : Int) + kk) = (i : Int) + kk := IntWalk.i64_in _ (by omega)
      by_cases hle : (i : Int) + kk ≤ (xs.length : Int)
      · have hlt : i < xs.length := HLT.out i (by omega)
        obtain ⟨g2, rfl⟩ : ∃ g2, gk = g2 + 1 := ⟨gk - 1, by omega⟩
        obtain ⟨x, hx⟩ : ∃ x, xs[i]? = some x := ⟨_, List.getElem?_eq_getElem hlt⟩
        obtain ⟨gx, ox, rfl, cx0⟩ := HCX.out i x hx
        have HCX0 := Lib.hid cx0
        have HDR := Lib.hid (chL_drop hx d)
        have hdl : (xs.drop (i + 1)).length = xs.length - (i + 1) := List.length_drop
        have HRD : Hid (∀ W, Below w.heap.size w W → Reads W 1 (.slice (if c = i + 1 then some ⟨gx, ox, none⟩ else some ⟨gx, ox + (i + 1), none⟩) (xs.length - (i + 1)) (c - (i + 1))) (xs.length - (i + 1)) (cellsI (xs.drop (i + 1)))) := fun W hW => by
          have h2 := apps.Reads.drop (k := i + 1) (HU.out.below hW) (by omega)
          rw [apps.cellsI_drop, Nat.mul_one] at h2
          simpa [apps.addr_add] using h2
        have hcc := reads_cap HU.out (show i + 1 ≤ xs.length by omega)
        have HDL := Lib.hid hdl
        clear hdl
        obtain ⟨SA, sc, hsl, hif⟩ : ∃ SA sc, Hid (∀ W, Below w.heap.size w W → Reads W 1 (.slice SA (xs.length - (i + 1)) sc) (xs.length - (i + 1)) (cellsI (xs.drop (i + 1)))) ∧ ((c = i + 1 ∧ SA = some ⟨gx, ox, none⟩ ∧ sc = 0) ∨ (¬ c = i + 1 ∧ SA = some ⟨gx, ox + (i + 1), none⟩ ∧ sc = c - (i + 1))) := by
          refine ⟨_, _, HRD, ?_⟩
          by_cases h : c = i + 1
          · exact .inl ⟨h, by rw [if_pos h], by omega⟩
          · exact .inr ⟨h, by rw [if_neg h], rfl⟩
        clear HRD
        have hii : IntKind.i64.wrap ((i : Int) + 1) = (i : Int) + 1 := IntWalk.i64_in _ (by omega)
        obtain ⟨wo, hwo⟩ : ∃ wo, wo = wr := ⟨_, rfl⟩
        subst hwo
        have HCA : Hid (Calls Tryd.prog 82 #[.slice SA (xs.length - (i + 1)) sc, .int .i64 (d : Int)] wo (RetX wo (chL (xs.drop (i + 1)) d))) := by
          have h_ := hsl.out wo hB
          rw [← HDL.out] at h_ ⊢
          exact HIH.out _ _ wo h_ (by rw [HDL.out]; omega)
        have HG := Lib.hid hG
        have HBO := Lib.hid hB
        have HEO : Hid (O ++ (chL (xs.drop (i + 1)) d).map (x :: ·) ++ chL (xs.drop (i + 1)) (d + 1) = chL xs (d + 1)) := by
          show _ = _
          rw [← he.out, HDR.out, List.append_assoc]
        have hol : O.length + (chL (xs.drop (i + 1)) d).length ≤ 256 := by
          have h_ := congrArg List.length HEO.out
          rw [List.length_append, List.length_append, List.length_map] at h_
          have := HTL.out
          omega
        have HROW : Hid (∀ r ∈ chL (xs.drop (i + 1)) d, r.length = d) := fun r hr => chL_row _ _ r hr
        generalize chL (xs.drop (i + 1)) d = R at *
        clear hsl hG hB he cx0 hx
        rcases hif with ⟨hci, rfl, rfl⟩ | ⟨hne, rfl, rfl⟩
        all_goals
          (try subst hci)
          go_wp2_with fail
          refine HCA.out.mono ?_
          rintro e w5 ⟨A5, c5, us5, rfl, o5, b5⟩
          have HR := Lib.hid o5
          have HG5 := Lib.hid (HG.out.below b5)
          have HBW5 := Lib.hid (btrans HBO.out b5)
          have hg9 : Hid (OwnG w5 w.heap.size (.slice A4 O.length c4) us (O ++ (R.take 0).map (x :: ·))) := by
            show OwnG _ _ _ _ _
            rw [List.take_zero, List.map_nil, List.append_nil]; exact HG5.out
          have HSEP : Hid (∀ b, (Value.slice A4 O.length c4).ownBlock = some b → b < wo.heap.size ∨ w5.heap.size ≤ b) := fun b hb => .inl (HG.out.1.lt b hb).2
          have HIN : Hid (∀ b, (Value.slice A5 R.length c5).ownBlock = some b → wo.heap.size ≤ b ∧ b < w5.heap.size) := fun b hb => o5.1.lt b hb
          have hbo := HBO.out.size
          clear b5 o5
          go_wp2_with fail
          go_loopg [5, 8] R.length (fun g lv iv wr => ∃ (j : Nat) (lw : Value) (us : List Value), lw = lv ∧ j + g = R.length ∧ iv = .int .i64 (j : Int) ∧ OwnG wr w.heap.size lw us (O ++ (R.take j).map (x :: ·)) ∧
            OwnG wr wo.heap.size (.slice A5 R.length c5) us5 R ∧ Hid (∀ b, lw.ownBlock = some b → b < wo.heap.size ∨ w5.heap.size ≤ b) ∧ Below w.heap.size w wr ∧ w5.heap.size ≤ wr.heap.size)
          case atStart => exact ⟨0, _, us, rfl, by omega, rfl, hg9.out, HR.out, HSEP, HBW5.out, Nat.le_refl _⟩
          case round =>
            clear hg9 HSEP HR HG5
            obtain ⟨j, lw, us, rfl, hjg, rfl, hG, hR, hsep, hB, hsz⟩ := hrel
            cases gk with
            | zero =>
              obtain rfl : j = R.length := by omega
              rw [List.take_length] at hG
              have HG9 := Lib.hid hG
              clear hG hR
              go_wp2_with fail
              go_roundg g2
              case measure => omega
              case rel => exact ⟨i + 1, _, us, _, rfl, by omega, by go_num, HG9.out, HEO, hB⟩
            | succ g3 =>
              have hjl : j < R.length := by omega
              have hjl' : (j : Int) < (R.length : Int) := by omega
              obtain ⟨L, hL⟩ : ∃ L, R[j]? = some L := ⟨_, List.getElem?_eq_getElem hjl⟩
              obtain ⟨u, g, o, hu, hAx, c0, hru⟩ := (gridl.readsG_of_own hR).row hL
              subst hAx
              obtain ⟨Ar, cr, rfl, -⟩ := hru.form
              have hLk : L.length ≤ 9 := by have := HROW.out L (List.mem_of_getElem? hL); omega
              have HRW : Hid (O ++ (R.take (j + 1)).map (x :: ·) = (O ++ (R.take j).map (x :: ·)) ++ [x :: L]) := by
                show _ = _
                rw [take_cons x hL, ← List.append_assoc]
              have hrows : (O ++ (R.take j).map (x :: ·)).length ≤ 600 := by
                rw [List.length_append, List.length_map, List.length_take]; omega
              have hHR : Hid (∀ W, Below wr.heap.size wr W → Ints W (.slice Ar L.length cr) L) := fun W hW => hru.below hW
              have HO1 : Hid (((wr.alloc (.cells #[.int .i64 x] 3)).drew).ownsRow wr.heap.size 3 1 (.slice (some ⟨wr.heap.size, 0, none⟩) 1 1) 1 (cellsI [x])) := (own_new1 wr 3 x).drew
              have hcl : Hid ((cellsI L).length = L.length * 1) := by show _ = _; simp [cellsI]
              have HB1 : Hid (Below wr.heap.size wr ((wr.alloc (.cells #[.int .i64 x] 3)).drew)) := ((Below.refl _ _).alloc (Nat.le_refl _) _).drew
              obtain ⟨A4, c4, rfl⟩ := own_form hG.1
              have q1 := nearv.cell_keep HCX0.out hB
              have HG := Lib.hid hG
              have HR := Lib.hid hR
              have HB := Lib.hid hB
              have hwb := hB.size
              clear hL hG hR hru hB hjl
              generalize O ++ (R.take j).map (x :: ·) = rows at *
              go_wp2_with fail
              refine wp_region_held_drew (S := (fun w' : World => w'.cell? ⟨gx, ox + i, none⟩ = some (.int .i64 x) ∧ w'.cell? ⟨g, o + j, none⟩ = some (.slice Ar L.length cr))) (by kernel_rfl) (by (try dsimp only); simp [*]) (fun hHeld => ?_)
              change wpAnyH _ _ _ _ _ _ #[false, false, false, false, false, false, false, false, false, false, false, false, false, false] _ _
              refine wpAnyH_take (i := 0) (oi := ⟨some 35, _, _, _, _, _⟩) (v := ?_) rfl (by kernel_rfl) (by kernel_rfl) (by kernel_rfl) (fun _ _ _ h => h) (Or.inl ⟨by rfl, ?_⟩) (by assumption) ?_
              rotate_left
              · (intro w hSw; (try dsimp only at hSw); go_simp; (try (with_reducible rfl)))
              try simp only [Act.put, List.setIfInBounds_toArray, List.set_cons_zero, List.set_cons_succ]
              refine wpAnyH_take (i := 1) (oi := ⟨some 36, _, _, _, _, _⟩) (v := ?_) rfl (by kernel_rfl) (by kernel_rfl) (by kernel_rfl) (fun _ _ _ h => h) (Or.inl ⟨by rfl, ?_⟩) (by assumption) ?_
              rotate_left
              · (intro w hSw; (try dsimp only at hSw); go_simp; (try (with_reducible rfl)))
              try simp only [Act.put, List.setIfInBounds_toArray, List.set_cons_zero, List.set_cons_succ]
              refine wpAnyH_take (i := 2) (oi := ⟨some 37, _, _, _, _, _⟩) (v := ?_) rfl (by kernel_rfl) (by kernel_rfl) (by kernel_rfl) (fun _ _ _ h => h) (Or.inl ⟨by rfl, ?_⟩) (by assumption) ?_
              rotate_left
              · (intro w hSw; (try dsimp only at hSw); go_simp; (try (with_reducible rfl)))
              try simp only [Act.put, List.setIfInBounds_toArray, List.set_cons_zero, List.set_cons_succ]
              refine wpAnyH_take (i := 3) (oi := ⟨some 38, _, _, _, _, _⟩) (v := ?_) rfl (by kernel_rfl) (by kernel_rfl) (by kernel_rfl) (fun _ _ _ h => h) (Or.inl ⟨by rfl, ?_⟩) (by assumption) ?_
              rotate_left
              · (intro w hSw; (try dsimp only at hSw); go_simp; (try (with_reducible rfl)))
              try simp only [Act.put, List.setIfInBounds_toArray, List.set_cons_zero, List.set_cons_succ]
              refine wpAnyH_take (i := 4) (oi := ⟨some 39, _, _, _, _, _⟩) (v := ?_) rfl (by kernel_rfl) (by kernel_rfl) (by kernel_rfl) (fun _ _ _ h => h) (Or.inl ⟨by rfl, ?_⟩) (by assumption) ?_
              rotate_left
              · (intro w hSw; (try dsimp only at hSw); go_simp; (try (with_reducible rfl)))
              try simp only [Act.put, List.setIfInBounds_toArray, List.set_cons_zero, List.set_cons_succ]
              refine wpAnyH_take (i := 6) (oi := ⟨some 41, _, _, _, _, _⟩) (v := ?_) rfl (by kernel_rfl) (by kernel_rfl) (by kernel_rfl) (fun _ _ _ h => h) (Or.inl ⟨by rfl, ?_⟩) (by assumption) ?_
              rotate_left
              · (intro w hSw; (try dsimp only at hSw); go_simp; (try (with_reducible rfl)))
              try simp only [Act.put, List.setIfInBounds_toArray, List.set_cons_zero, List.set_cons_succ]
              refine wpAnyH_take (i := 7) (oi := ⟨some 42, _, _, _, _, _⟩) (v := ?_) rfl (by kernel_rfl) (by kernel_rfl) (by kernel_rfl) (fun _ _ _ h => h) (Or.inl ⟨by rfl, ?_⟩) (by assumption) ?_
              rotate_left
              · (intro w hSw; (try dsimp only at hSw); go_simp; (try (with_reducible rfl)))
              try simp only [Act.put, List.setIfInBounds_toArray, List.set_cons_zero, List.set_cons_succ]
              refine wpAnyH_take (i := 8) (oi := ⟨some 43, _, _, _, _, _⟩) (v := ?_) rfl (by kernel_rfl) (by kernel_rfl) (by kernel_rfl) (fun _ _ _ h => h) (Or.inl ⟨by rfl, ?_⟩) (by assumption) ?_
              rotate_left
              · (intro w hSw; (try dsimp only at hSw); go_simp; (try (with_reducible rfl)))
              try simp only [Act.put, List.setIfInBounds_toArray, List.set_cons_zero, List.set_cons_succ]
              refine wpAnyH_take (i := 9) (oi := ⟨some 44, _, _, _, _, _⟩) (v := ?_) rfl (by kernel_rfl) (by kernel_rfl) (by kernel_rfl) (fun _ _ _ h => h) (Or.inl ⟨by rfl, ?_⟩) (by assumption) ?_
              rotate_left
              · (intro w hSw; (try dsimp only at hSw); go_simp; (try (with_reducible rfl)))
              try simp only [Act.put, List.setIfInBounds_toArray, List.set_cons_zero, List.set_cons_succ]
              refine wpAnyH_ready (rs := [5]) (by kernel_rfl) (by simp) ?_
              refine AllReadyH.cons rfl (fun K hK => ?_) AllReadyH.nil
              go_simp
              refine hK.out _ _ (⟨nearv.cell_keep q1 HB1.out, nearv.cell_keep c0 HB1.out⟩) (fun hHeld => ?_)
              clear hK K
              try simp only [List.setIfInBounds_toArray, List.set_cons_zero, List.set_cons_succ]
              refine wpAnyH_ready (rs := [10]) (by kernel_rfl) (by simp) ?_
              refine AllReadyH.cons rfl (fun K hK => ?_) AllReadyH.nil
              (refine step_append_any _ rfl (.tmp 40) (.tmp 44) 25 rfl wr.heap.size 3 i0 (.int .i64 0) 1 8 Tryd.underlying25 hi hz0 hz1 hz2 rfl (by decide) (.slice (some ⟨wr.heap.size, 0, none⟩) 1 1) 1 (cellsI [x]) rfl HO1.out (.slice Ar L.length cr) L.length (cellsI L) rfl (hHR.out _ HB1.out) hcl.out (oneI _) (by unfold maxLen; omega) (by omega) HB1.out.size ?_; intro v2 w6 o6 gr6; have hB6 : Below wr.heap.size wr w6 := HB1.out.grown gr6 (by simp) (fun j e => (HO1.out.lt j e).1); have o7 : w6.ownsRow wr.heap.size 3 1 v2 (x :: L).length (cellsI (x :: L)) := by { have h_ := o6; rw [show 1 + L.length = (x :: L).length from by simp; omega] at h_; exact h_ }; clear o6 gr6; obtain ⟨A6, c6, rfl⟩ := own_form o7; have hs6 := hB6.size; have hB7 : Below wr.heap.size wr (w6.alloc (.cells #[.slice A6 (x :: L).length c6] 25)) := hB6.alloc hs6 _; have hown5 := (HG.out.below hB6).1; have hul : us.length ≤ 600 := (HG.out.len ▸ hrows))
              refine hK.out _ _ (⟨nearv.cell_keep q1 hB6, nearv.cell_keep c0 hB6⟩) (fun hHeld => ?_)
              clear hK K
              try simp only [Act.put, List.setIfInBounds_toArray, List.set_cons_zero, List.set_cons_succ]
              refine wpAnyH_ready (rs := [11]) (by kernel_rfl) (by simp) ?_
              refine AllReadyH.cons rfl (fun K hK => ?_) AllReadyH.nil
              go_simp
              refine hK.out _ _ (⟨nearv.cell_keep q1 hB7, nearv.cell_keep c0 hB7⟩) (fun hHeld => ?_)
              clear hK K
              try simp only [List.setIfInBounds_toArray, List.set_cons_zero, List.set_cons_succ]
              refine wpAnyH_ready (rs := [12]) (by kernel_rfl) (by simp) ?_
              refine AllReadyH.cons rfl (fun K hK => ?_) AllReadyH.nil
              (refine step_append_lies _ rfl (.tmp 35) (.tmp 46) 35 rfl w.heap.size 25 i1 (.slice none 0 0) 1 24 Tryd.underlying35 hi1 hy0 hy1 hy2 rfl (by decide) (.slice A4 rows.length c4) rows.length us rfl (hown5.alloc _) ⟨w6.heap.size, 0, none⟩ 1 1 [.slice A6 (x :: L).length c6] rfl rfl (cell_one_new _ _ _) (fun x hx => by simp at hx; subst hx; rfl) (by decide) (by unfold maxLen; omega) (by omega) (by simp; omega) (w6.heap.size + 1) (by simp) ?_; intro g8 cap8 w7 hown7 hgrow7 lies7 lt7; have hR6 := HR.out.below hB6; have hR7 := keepG (hR6.below ((Below.refl w6.heap.size w6).alloc (Nat.le_refl _) (.cells #[.slice A6 (x :: L).length c6] 25))) (hown5.alloc _) (fun b hb e => by { have h1 := HIN.out b hb; have h2 := hsep.out b e; omega }) hgrow7; have e7 : Below w.heap.size w w7 := ((btrans HB.out hB7).grown hgrow7 (by simp; omega) (fun j e => (hown5.lt j e).1)); have q3 := nearv.cell_keep HCX0.out e7; have hc7 : w7.cell? ⟨g, o + j, none⟩ = some (.slice Ar L.length cr) := by { obtain ⟨g_, hga, hc_, -, -⟩ := own_at hR7.1 hu; simp only [Option.some.injEq, Addr.mk.injEq, and_true] at hga; rw [hga.1, hga.2, Nat.zero_add]; exact hc_ })
              refine hK.out _ _ (⟨q3, hc7⟩) (fun hHeld => ?_)
              clear hK K
              try simp only [Act.put, List.setIfInBounds_toArray, List.set_cons_zero, List.set_cons_succ]
              refine wpAnyH_take (i := 13) (oi := ⟨some 5, _, _, _, _, _⟩) (v := ?_) rfl (by kernel_rfl) (by kernel_rfl) (by kernel_rfl) (fun _ _ _ h => h) (Or.inl ⟨by rfl, ?_⟩) (by assumption) ?_
              rotate_left
              · (intro w hSw; (try dsimp only at hSw); go_simp; (try (with_reducible rfl)))
              try simp only [Act.put, List.setIfInBounds_toArray, List.set_cons_zero, List.set_cons_succ]
              refine wpAnyH_done (by kernel_rfl) ?_ _
              have HG7 := Lib.hid (OwnG.push HG.out hB6 hwb o7 hown7 rfl hgrow7)
              have HR7 := Lib.hid hR7
              have HB7 := Lib.hid e7
              have hge7 : w6.heap.size ≤ w7.heap.size := by
                have := hgrow7.size
                simp at this; omega
              have HSP : Hid (∀ b, (Value.slice (some ⟨g8, 0, none⟩) (rows.length + 1) cap8).ownBlock = some b → b < wo.heap.size ∨ w5.heap.size ≤ b) := fun b hb => by
                have hb8 : g8 = b := by simpa [Value.ownBlock] using hb
                rcases lies7 with h1 | h1
                · exact hsep.out b (by rw [← hb8]; exact h1)
                · right; omega
              clear hown7 hgrow7 hown5 hR6 hR7 e7 hB6 hB7 o7 q1 q3 hc7 c0 hHeld lies7
              go_wp2_with fail
              go_roundg g3
              case measure => omega
              case rel => exact ⟨j + 1, _, _, rfl, by omega, by go_num, by rw [HRW.out]; exact HG7.out, HR7.out, HSP, HB7.out, by omega⟩
      · have HV : Hid (chL xs (d + 1) = O) := by
          show _ = _
          rw [← he.out, HSH.out i (by omega), List.append_nil]
        have HG := Lib.hid hG
        clear hG
        go_wp2_with fail
        go_ret
        rw [HV.out]
        exact ⟨A4, c4, us, rfl, HG.out, hB⟩
end Go.Proofs.YthpodbhiopnnbaaDoor.ups

/- The contracts of the model's l1Same and l4At over lists of any length. -/
namespace Go.Proofs.YthpodbhiopnnbaaDoor.ups
open Go.RowKit P2 words edges ints good adjs fns sets gridr grid
set_option linter.unusedVariables false

set_option maxHeartbeats 2000000 in
set_option maxRecDepth 100000 in
theorem l1SameI_any (u v : Value) (a b : List Int) (w : World) (hu : Ints w u a) (hv : Ints w v b) (ha : a.length ≤ 1048576) (hb : b.length ≤ 1048576) :
    Calls Tryd.prog 84 #[u, v] w fun e w' => e = .returned (.bool (decide (a = b))) ∧ Below w.heap.size w w' := by
  obtain ⟨A1, c1, rfl, hc1⟩ := hu.form
  obtain ⟨A2, c2, rfl, hc2⟩ := hv.form
  have HC1 := Lib.hid hc1
  have HC2 := Lib.hid hc2
  clear hu hv hc1 hc2
  by_cases hl : a.length = b.length
  · have HL := Lib.hid hl
    have hq0 : ((a.length : Int) != (b.length : Int)) = false := by rw [hl]; simp
    have hq1 : ((a.length : Int) == (b.length : Int)) = true := by rw [hl]; simp
    have hq2 : (a.length == b.length) = true := by rw [hl]; simp
    have HE0 : Hid (a.take 0 = b.take 0) := rfl
    clear hl
    go_enter Tryd.func84, Tryd.ntmps84
    go_wp2_with fail
    go_loopg [5] a.length (fun g i wr => ∃ k : Nat, k + g = a.length ∧ i = .int .i64 (k : Int) ∧ Hid (a.take k = b.take k) ∧ Below w.heap.size w wr)
    case atStart => exact ⟨0, by omega, rfl, HE0, Below.refl _ _⟩
    case round =>
      clear HE0
      obtain ⟨k, hkg, rfl, hr, hB⟩ := hrel
      cases gk with
      | zero =>
        obtain rfl : k = a.length := by omega
        have HV : Hid (decide (a = b) = true) := by
          show _ = _
          have h1 := hr.out
          rw [List.take_length, HL.out, List.take_length] at h1
          exact decide_eq_true h1
        go_wp2_with fail
        go_ret
        rw [HV.out]
        exact ⟨rfl, hB⟩
      | succ gg =>
        have hlt : k < a.length := by omega
        have hlt' : (k : Int) < (a.length : Int) := by omega
        have hlb' : (k : Int) < (b.length : Int) := by rw [← HL.out]; omega
        obtain ⟨x, hx⟩ : ∃ x, a[k]? = some x := ⟨_, List.getElem?_eq_getElem hlt⟩
        obtain ⟨y, hy⟩ : ∃ y, b[k]? = some y := ⟨_, List.getElem?_eq_getElem (by have := HL.out; omega)⟩
        obtain ⟨g1, o1, rfl, q1⟩ := HC1.out k _ hx
        obtain ⟨g2, o2, rfl, q2⟩ := HC2.out k _ hy
        have r1 := nearv.cell_keep q1 hB
        have r2 := nearv.cell_keep q2 hB
        have HB := Lib.hid (fun nq => below_drewN hB nq)
        by_cases hxy : x = y
        · subst hxy
          have HK : Hid (a.take (k + 1) = b.take (k + 1)) := by
            show _ = _
            rw [List.take_add_one, List.take_add_one, hx, hy, hr.out]
          have d0 : (x != x) = false := by simp
          clear hx hy q1 q2 hB
          go_wp2_with fail
          go_quiet (fail)
          go_wp2_with fail
          go_roundg gg
          case measure => omega
          case rel => exact ⟨k + 1, by omega, by go_num, HK, HB.out _⟩
        · have HV : Hid (decide (a = b) = false) := decide_eq_false fun e => hxy (by rw [e, hy] at hx; cases hx; rfl)
          have d0 : (x != y) = true := by simpa using hxy
          clear hx hy q1 q2 hB
          go_wp2_with fail
          go_quiet (fail)
          go_wp2_with fail
          go_ret
          rw [HV.out]
          exact ⟨rfl, HB.out _⟩
  · have HV : Hid (decide (a = b) = false) := decide_eq_false fun e => hl (by rw [e])
    have hq0 : ((a.length : Int) != (b.length : Int)) = true := by
      have h_ : ((a.length : Int) == (b.length : Int)) = false := by rw [beq_eq_false_iff_ne]; omega
      show (!((a.length : Int) == (b.length : Int))) = true
      rw [h_]; rfl
    have hq1 : ((a.length : Int) == (b.length : Int)) = false := by rw [beq_eq_false_iff_ne]; omega
    have hq2 : (a.length == b.length) = false := by rw [beq_eq_false_iff_ne]; exact hl
    clear hl
    go_enter Tryd.func84, Tryd.ntmps84
    go_wp2_with fail
    go_ret
    rw [HV.out]
    exact ⟨rfl, Below.refl _ _⟩
set_option maxHeartbeats 2000000 in
set_option maxRecDepth 100000 in
theorem l4AtI_any (t v : Value) (us : List Value) (rows : List (List Int)) (x : List Int) (m : Nat) (w : World) (ht : ReadsG w t us rows) (hv : Ints w v x) (hx : rows[m]? = some x) (hfst : ∀ j y, j < m → rows[j]? = some y → y ≠ x) (hlr : ∀ r ∈ rows, r.length ≤ 1048576) (hL : rows.length ≤ 1048576) :
    Calls Tryd.prog 48 #[t, v] w fun e w' => e = .returned (.int .i64 (m : Int)) ∧ Below w.heap.size w w' := by
  obtain ⟨At, ct, rfl, -⟩ := ht.1
  obtain ⟨A2, c2, rfl, -⟩ := hv.form
  have HT := Lib.hid ht
  have HV := Lib.hid hv
  have HX := Lib.hid hx
  have HF := Lib.hid hfst
  have HLR := Lib.hid hlr
  have hml := (List.getElem?_eq_some_iff.1 hx).1
  have hxl : x.length ≤ 1048576 := hlr x (List.mem_of_getElem? hx)
  clear ht hv hx hfst hlr
  go_enter Tryd.func48, Tryd.ntmps48
  go_wp2_with fail
  go_loopg [5] m (fun g i wr => ∃ k : Nat, k + g = m ∧ i = .int .i64 (k : Int) ∧ Below w.heap.size w wr)
  case atStart => exact ⟨0, by omega, rfl, Below.refl _ _⟩
  case round =>
    obtain ⟨k, hkg, rfl, hB⟩ := hrel
    have hkl : k < rows.length := by omega
    have hkl' : (k : Int) < (rows.length : Int) := by omega
    obtain ⟨y, hy⟩ : ∃ y, rows[k]? = some y := ⟨_, List.getElem?_eq_getElem hkl⟩
    obtain ⟨u, g5, o5, hu5, hA5, c5, hu⟩ := (HT.out.below hB).row hy
    subst hA5
    obtain ⟨Ax, cx, rfl, -⟩ := hu.form
    have HS := Lib.hid (l1SameI_any (.slice Ax y.length cx) (.slice A2 x.length c2) y x wr hu (HV.out.below hB) (HLR.out y (List.mem_of_getElem? hy)) hxl)
    have HB := Lib.hid hB
    cases gk with
    | zero =>
      obtain rfl : k = m := by omega
      have hyx : y = x := by have := HX.out; rw [hy] at this; cases this; rfl
      rw [decide_eq_true hyx] at HS
      clear hy hu hu5 hB hyx
      go_wp2_with fail
      refine HS.out.mono ?_
      rintro e w1 ⟨rfl, b1⟩
      go_wp2_with fail
      go_ret
      exact ⟨rfl, btrans HB.out b1⟩
    | succ g2 =>
      have hyx : y ≠ x := HF.out k y (by omega) hy
      rw [decide_eq_false hyx] at HS
      clear hy hu hu5 hB hyx
      go_wp2_with fail
      refine HS.out.mono ?_
      rintro e w1 ⟨rfl, b1⟩
      have HB1 := Lib.hid (btrans HB.out b1)
      clear b1 c5
      go_wp2_with fail
      go_roundg g2
      case measure => omega
      case rel => exact ⟨k + 1, by omega, by go_num, HB1.out⟩
end Go.Proofs.YthpodbhiopnnbaaDoor.ups

/- Guards: the contract of the model's l10Answers. -/
namespace Go.Proofs.YthpodbhiopnnbaaDoor.ups
open Go.RowKit P2 words edges ints good adjs fns sets rets covs bags balls bitsI func lists times apps gridr grid
set_option linter.unusedVariables false

theorem has_nd {b x : Nat} (hb : b < 256) : decide ((x : Int) ∈ ndN b) = b.testBit x := by
  rw [Bool.eq_iff_iff, decide_eq_true_iff]
  unfold ndN
  rw [mem_nw]
  constructor
  · rintro ⟨j, hj, hp, e⟩
    have : x = j := by omega
    subst this; exact hp
  · intro h
    refine ⟨x, ?_, h, rfl⟩
    by_cases e : x < 8
    · exact e
    · rw [Nat.testBit_lt_two_pow (Nat.lt_of_lt_of_le hb (show 256 ≤ 2 ^ x from by
        have := Nat.pow_le_pow_right (show 0 < 2 by decide) (show 8 ≤ x by omega)
        exact this))] at h
      cases h
/-- the places of the answers to an attack -/
def plP (l : List Ed) (all : Bool) (x a : Nat) (L : List Nat) (i : Nat) : Bool := ansB l all x a (L.getD i 0)
def plL (l : List Ed) (all : Bool) (x a : Nat) (L : List Nat) : List Int := nw (plP l all x a L) L.length
theorem plP_at {l : List Ed} {all : Bool} {x a : Nat} {L : List Nat} {i b : Nat} (h : L[i]? = some b) : plP l all x a L i = ansB l all x a b := by
  unfold plP
  rw [List.getD_eq_getElem?_getD, h]; rfl
set_option maxHeartbeats 8000000 in
set_option maxRecDepth 100000 in
theorem l10Answers_any (n k pl x a : Nat) (all : Bool) (v t : Value) (us : List Value) (L : List Nat) (l : List Ed) (w : World) (h : Edges w v l) (hl : l.length ≤ 1048576) (ht : ReadsG w t us (rowN L)) (hL : ∀ c ∈ L, c < 2 ^ n ∧ onesN c = k) (hLl : L.length ≤ 256) (hpl : L[pl]? = some a) (hg : P2.Good (n : Int) l) (hn : n ≤ 8) :
    Calls Tryd.prog 47 #[.agg #[.int .i64 (n : Int), v], t, .int .i64 (pl : Int), .int .i64 (x : Int), .bool all] w (RowI w (plL l all x a L)) := by
  obtain ⟨A, c, rfl, -⟩ := h.form
  obtain ⟨i0, hi, hz0, hz1, hz2⟩ := info_parts infoInt
  obtain ⟨At, ct, rfl, -⟩ := ht.1
  obtain ⟨ua, g5, o5, hua5, hA5, ca5, hua⟩ := ht.row (rowN_at hpl)
  subst hA5
  obtain ⟨Aa, ca, rfl, -⟩ := hua.form
  have H := Lib.hid h
  have HT := Lib.hid ht
  have HUA := Lib.hid hua
  have HCA := Lib.hid ca5
  have hrl := rowN_len L
  have hpll : pl < L.length := (List.getElem?_eq_some_iff.1 hpl).1
  have hpl' : (pl : Int) < ((rowN L).length : Int) := by omega
  have hrl2 : (rowN L).length ≤ 256 := by omega
  have HRL := Lib.hid hrl
  have ha2 := hL a (List.mem_of_getElem? hpl)
  have HHS := Lib.hid (fun (b : Nat) (hb : b < 256) (u : Value) (W : World) (hu : Ints W u (ndN b)) => (by have h_ := l1Has_any u (ndN b) (x : Int) W hu (by have := nw_len (bitB b) 8; unfold ndN; omega); rw [has_nd hb] at h_; exact h_ : Calls Tryd.prog 45 #[u, .int .i64 (x : Int)] W fun e w' => e = .returned (.bool (b.testBit x)) ∧ W = w'))
  have HMV := Lib.hid (fun (b : Nat) (hb : b ∈ L) (ub : Value) (W : World) (hW : Below w.heap.size w W) (hub : Ints W ub (ndN b)) => l10Moves_any n a b all (.slice A l.length c) (.slice Aa (ndN a).length ca) ub l W (H.out.below hW) hl (HUA.out.below hW) hub hg hn ha2.1 (hL b hb).1 (ha2.2.trans (hL b hb).2.symm))
  have HB8 : Hid (∀ b ∈ L, b < 256) := fun b hb => Nat.lt_of_lt_of_le (hL b hb).1 (pow_le hn)
  have HB0 : Hid (Below w.heap.size w ((w.alloc (.cells #[.int .i64 (n : Int), .slice A l.length c] 29)).alloc (.cells #[] 3))) := ((Below.refl _ _).alloc (Nat.le_refl _) _).alloc (by simp) _
  have HG0 := Lib.hid ((Blk.new w 29 #[.int .i64 (n : Int), .slice A l.length c]).alloc (.cells #[] 3))
  have o0 := own_new0 (w.alloc (.cells #[.int .i64 (n : Int), .slice A l.length c] 29)) 3 1
  rw [World.size_alloc] at o0
  have HO0 := Lib.hid (own_base (B' := w.heap.size) o0 (by omega))
  have HPY : Hid (∀ (i b : Nat), L[i]? = some b → ansB l all x a b = true → nw (plP l all x a L) (i + 1) = nw (plP l all x a L) i ++ [(i : Int)]) := fun i b h1 h2 => nw_yes (by rw [plP_at h1]; exact h2)
  have HPN : Hid (∀ (i b : Nat), L[i]? = some b → ansB l all x a b = false → nw (plP l all x a L) (i + 1) = nw (plP l all x a L) i) := fun i b h1 h2 => nw_no (by rw [plP_at h1]; exact h2)
  have HV : Hid (plL l all x a L = nw (plP l all x a L) L.length) := rfl
  have HPL : Hid (∀ i, (nw (plP l all x a L) i).length ≤ i) := fun i => nw_len _ _
  clear h ht hua ca5 hua5 hg ha2 hrl o0 hL
  have HLL := Lib.hid hLl
  generalize nw (plP l all x a L) = PF at *
  go_enter Tryd.func47, Tryd.ntmps47
  go_wp2_with fail
  go_loopg [11, 12] L.length (fun g ov iv wr => ∃ (i : Nat) (ow : Value), ow = ov ∧ i + g = L.length ∧ iv = .int .i64 (i : Int) ∧ wr.ownsRow w.heap.size 3 1 ow (PF i).length (cellsI (PF i)) ∧ Blk wr w.heap.size 29 #[.int .i64 (n : Int), .slice A l.length c] ∧ Below w.heap.size w wr)
  case atStart => exact ⟨0, _, rfl, by omega, rfl, by have h_ := HPL.out 0; rw [List.length_eq_zero_iff.1 (Nat.le_zero.1 h_)]; exact HO0.out, HG0.out, HB0.out⟩
  case round =>
    clear HO0 HG0 HB0
    obtain ⟨i, ow, rfl, hig, rfl, hrow, hgb, hB⟩ := hrel
    obtain ⟨A4, c4, rfl⟩ := own_form hrow
    obtain ⟨p0, p1, -, -⟩ := hgb.two
    have HB := Lib.hid hB
    have HG := Lib.hid hgb
    have HR := Lib.hid hrow
    cases gk with
    | zero =>
      obtain rfl : i = L.length := by omega
      have hnl : ¬ ((L.length : Int) < ((rowN L).length : Int)) := by rw [HRL.out]; omega
      clear hrow hgb hB
      go_wp2_with fail
      go_ret
      rw [HV.out]
      exact ⟨A4, c4, rfl, HR.out, HB.out⟩
    | succ g2 =>
      have hlt : i < L.length := by omega
      have hlt' : (i : Int) < ((rowN L).length : Int) := by rw [HRL.out]; omega
      obtain ⟨b, hb⟩ : ∃ b, L[i]? = some b := ⟨_, List.getElem?_eq_getElem hlt⟩
      have hbm := List.mem_of_getElem? hb
      obtain ⟨ub, g6, o6, hu6, hA6, cb5, hub⟩ := (HT.out.below hB).row (rowN_at hb)
      simp only [Option.some.injEq, Addr.mk.injEq, and_true] at hA6
      obtain ⟨rfl, rfl⟩ := hA6
      obtain ⟨Ab, cb, rfl, -⟩ := hub.form
      have ca5 := nearv.cell_keep HCA.out hB
      have HUB := Lib.hid hub
      have HH := Lib.hid (HHS.out b (HB8.out b hbm) (.slice Ab (ndN b).length cb) wr.drew (hub.below (Below.refl _ _).drew))
      have hpi := HPL.out i
      cases hbt : b.testBit x with
      | false =>
        have HN := Lib.hid (HPN.out i b hb (by unfold ansB; rw [hbt]; rfl))
        rw [hbt] at HH
        clear hbt hb hbm hub hu6 hrow hgb hB
        go_wp2_with fail
        refine wp_region_held_drew (S := (fun w' : World => w'.cell? ⟨w.heap.size, 0, none⟩ = some (.int .i64 (n : Int)) ∧ w'.cell? ⟨w.heap.size, 1, none⟩ = some (.slice A l.length c) ∧ w'.cell? ⟨g5, o5 + i, none⟩ = some (.slice Ab (ndN b).length cb) ∧ w'.cell? ⟨g5, o5 + pl, none⟩ = some (.slice Aa (ndN a).length ca))) (by kernel_rfl) (by (try dsimp only); simp [*]) (fun hHeld => ?_)
        change wpAnyH _ _ _ _ _ _ #[false, false, false, false, false, false, false, false, false, false, false, false, false, false, false, false, false, false, false] _ _
        refine wpAnyH_take (i := 0) (oi := ⟨some 20, _, _, _, _, _⟩) (v := ?_) rfl (by kernel_rfl) (by kernel_rfl) (by kernel_rfl) (fun _ _ _ h => h) (Or.inl ⟨by rfl, ?_⟩) (by assumption) ?_
        rotate_left
        · (intro w hSw; (try dsimp only at hSw); go_simp; (try (with_reducible rfl)))
        try simp only [Act.put, List.setIfInBounds_toArray, List.set_cons_zero, List.set_cons_succ]
        refine wpAnyH_take (i := 1) (oi := ⟨some 21, _, _, _, _, _⟩) (v := ?_) rfl (by kernel_rfl) (by kernel_rfl) (by kernel_rfl) (fun _ _ _ h => h) (Or.inl ⟨by rfl, ?_⟩) (by assumption) ?_
        rotate_left
        · (intro w hSw; (try dsimp only at hSw); go_simp; (try (with_reducible rfl)))
        try simp only [Act.put, List.setIfInBounds_toArray, List.set_cons_zero, List.set_cons_succ]
        refine wpAnyH_take (i := 2) (oi := ⟨some 22, _, _, _, _, _⟩) (v := ?_) rfl (by kernel_rfl) (by kernel_rfl) (by kernel_rfl) (fun _ _ _ h => h) (Or.inl ⟨by rfl, ?_⟩) (by assumption) ?_
        rotate_left
        · (intro w hSw; (try dsimp only at hSw); go_simp; (try (with_reducible rfl)))
        try simp only [Act.put, List.setIfInBounds_toArray, List.set_cons_zero, List.set_cons_succ]
        refine wpAnyH_take (i := 3) (oi := ⟨some 23, _, _, _, _, _⟩) (v := ?_) rfl (by kernel_rfl) (by kernel_rfl) (by kernel_rfl) (fun _ _ _ h => h) (Or.inl ⟨by rfl, ?_⟩) (by assumption) ?_
        rotate_left
        · (intro w hSw; (try dsimp only at hSw); go_simp; (try (with_reducible rfl)))
        try simp only [Act.put, List.setIfInBounds_toArray, List.set_cons_zero, List.set_cons_succ]
        refine wpAnyH_take (i := 4) (oi := ⟨some 24, _, _, _, _, _⟩) (v := ?_) rfl (by kernel_rfl) (by kernel_rfl) (by kernel_rfl) (fun _ _ _ h => h) (Or.inl ⟨by rfl, ?_⟩) (by assumption) ?_
        rotate_left
        · (intro w hSw; (try dsimp only at hSw); go_simp; (try (with_reducible rfl)))
        try simp only [Act.put, List.setIfInBounds_toArray, List.set_cons_zero, List.set_cons_succ]
        refine wpAnyH_ready (rs := [5]) (by kernel_rfl) (by simp) ?_
        refine AllReadyH.cons (o := ⟨some 25, _, _, _, _, _⟩) rfl (fun K hK => ?_) AllReadyH.nil
        go_simp
        (with_reducible refine HH.out.mono ?_); rintro e w4 ⟨rfl, rfl⟩; obtain ⟨k0, k1, -, -⟩ := (HG.out.drewN 1).two
        go_wp2_with fail
        refine hK.out _ _ (by (try dsimp only); simp [*]) (fun hHeld => ?_)
        clear hK K
        try simp only [List.setIfInBounds_toArray, List.set_cons_zero, List.set_cons_succ]
        refine wpAnyH_take (i := 6) (oi := ⟨some 26, _, _, _, _, _⟩) (v := ?_) rfl (by kernel_rfl) (by kernel_rfl) (by kernel_rfl) (fun _ _ _ h => h) (Or.inl ⟨by rfl, ?_⟩) (by assumption) ?_
        rotate_left
        · (intro w hSw; (try dsimp only at hSw); go_simp; (try (with_reducible rfl)))
        try simp only [Act.put, List.setIfInBounds_toArray, List.set_cons_zero, List.set_cons_succ]
        refine wpAnyH_take (i := 7) (oi := ⟨some 27, _, _, _, _, _⟩) (v := undef) rfl (by kernel_rfl) (by kernel_rfl) (by kernel_rfl) (fun _ _ _ h => h) (Or.inr ⟨by rfl, rfl⟩) (by assumption) ?_
        try simp only [Act.put, List.setIfInBounds_toArray, List.set_cons_zero, List.set_cons_succ]
        refine wpAnyH_take (i := 8) (oi := ⟨some 28, _, _, _, _, _⟩) (v := undef) rfl (by kernel_rfl) (by kernel_rfl) (by kernel_rfl) (fun _ _ _ h => h) (Or.inr ⟨by rfl, rfl⟩) (by assumption) ?_
        try simp only [Act.put, List.setIfInBounds_toArray, List.set_cons_zero, List.set_cons_succ]
        refine wpAnyH_take (i := 9) (oi := ⟨some 29, _, _, _, _, _⟩) (v := undef) rfl (by kernel_rfl) (by kernel_rfl) (by kernel_rfl) (fun _ _ _ h => h) (Or.inr ⟨by rfl, rfl⟩) (by assumption) ?_
        try simp only [Act.put, List.setIfInBounds_toArray, List.set_cons_zero, List.set_cons_succ]
        refine wpAnyH_take (i := 10) (oi := ⟨some 30, _, _, _, _, _⟩) (v := undef) rfl (by kernel_rfl) (by kernel_rfl) (by kernel_rfl) (fun _ _ _ h => h) (Or.inr ⟨by rfl, rfl⟩) (by assumption) ?_
        try simp only [Act.put, List.setIfInBounds_toArray, List.set_cons_zero, List.set_cons_succ]
        refine wpAnyH_take (i := 11) (oi := ⟨some 31, _, _, _, _, _⟩) (v := undef) rfl (by kernel_rfl) (by kernel_rfl) (by kernel_rfl) (fun _ _ _ h => h) (Or.inr ⟨by rfl, rfl⟩) (by assumption) ?_
        try simp only [Act.put, List.setIfInBounds_toArray, List.set_cons_zero, List.set_cons_succ]
        refine wpAnyH_take (i := 12) (oi := ⟨some 32, _, _, _, _, _⟩) (v := undef) rfl (by kernel_rfl) (by kernel_rfl) (by kernel_rfl) (fun _ _ _ h => h) (Or.inr ⟨by rfl, rfl⟩) (by assumption) ?_
        try simp only [Act.put, List.setIfInBounds_toArray, List.set_cons_zero, List.set_cons_succ]
        refine wpAnyH_take (i := 13) (oi := ⟨some 33, _, _, _, _, _⟩) (v := undef) rfl (by kernel_rfl) (by kernel_rfl) (by kernel_rfl) (fun _ _ _ h => h) (Or.inr ⟨by rfl, rfl⟩) (by assumption) ?_
        try simp only [Act.put, List.setIfInBounds_toArray, List.set_cons_zero, List.set_cons_succ]
        refine wpAnyH_take (i := 14) (oi := ⟨some 34, _, _, _, _, _⟩) (v := undef) rfl (by kernel_rfl) (by kernel_rfl) (by kernel_rfl) (fun _ _ _ h => h) (Or.inr ⟨by rfl, rfl⟩) (by assumption) ?_
        try simp only [Act.put, List.setIfInBounds_toArray, List.set_cons_zero, List.set_cons_succ]
        refine wpAnyH_take (i := 15) (oi := ⟨some 35, _, _, _, _, _⟩) (v := undef) rfl (by kernel_rfl) (by kernel_rfl) (by kernel_rfl) (fun _ _ _ h => h) (Or.inr ⟨by rfl, rfl⟩) (by assumption) ?_
        try simp only [Act.put, List.setIfInBounds_toArray, List.set_cons_zero, List.set_cons_succ]
        refine wpAnyH_take (i := 16) (oi := ⟨some 36, _, _, _, _, _⟩) (v := undef) rfl (by kernel_rfl) (by kernel_rfl) (by kernel_rfl) (fun _ _ _ h => h) (Or.inr ⟨by rfl, rfl⟩) (by assumption) ?_
        try simp only [Act.put, List.setIfInBounds_toArray, List.set_cons_zero, List.set_cons_succ]
        refine wpAnyH_take (i := 17) (oi := ⟨some 37, _, _, _, _, _⟩) (v := undef) rfl (by kernel_rfl) (by kernel_rfl) (by kernel_rfl) (fun _ _ _ h => h) (Or.inr ⟨by rfl, rfl⟩) (by assumption) ?_
        try simp only [Act.put, List.setIfInBounds_toArray, List.set_cons_zero, List.set_cons_succ]
        refine wpAnyH_take (i := 18) (oi := ⟨some 38, _, _, _, _, _⟩) (v := ?_) rfl (by kernel_rfl) (by kernel_rfl) (by kernel_rfl) (fun _ _ _ h => h) (Or.inl ⟨by rfl, ?_⟩) (by assumption) ?_
        rotate_left
        · (intro w hSw; (try dsimp only at hSw); go_simp; (try (with_reducible rfl)))
        try simp only [Act.put, List.setIfInBounds_toArray, List.set_cons_zero, List.set_cons_succ]
        refine wpAnyH_done (by kernel_rfl) ?_ _
        have HG4 := Lib.hid (HG.out.drewN 1)
        have HR4 := Lib.hid HR.out.drew
        have HB4 := Lib.hid HB.out.drew
        clear p0 p1 k0 k1 hHeld ca5 cb5
        go_wp2_with fail
        go_roundg g2
        case measure => omega
        case rel => exact ⟨i + 1, _, rfl, by omega, by go_num, by rw [HN.out]; exact HR4.out, HG4.out, HB4.out⟩
      | true =>
        have HM1 := Lib.hid (fun (W : World) (hW : Below wr.heap.size wr W) => HMV.out b hbm (.slice Ab (ndN b).length cb) W (btrans HB.out hW) (HUB.out.below hW))
        rw [hbt] at HH
        cases hmv : mvB l all a b with
        | false =>
          have HN := Lib.hid (HPN.out i b hb (by unfold ansB; rw [hbt, hmv]; rfl))
          rw [hmv] at HM1
          clear hbt hb hbm hub hu6 hrow hgb hB hmv
          go_wp2_with fail
          refine wp_region_held_drew (S := (fun w' : World => w'.cell? ⟨w.heap.size, 0, none⟩ = some (.int .i64 (n : Int)) ∧ w'.cell? ⟨w.heap.size, 1, none⟩ = some (.slice A l.length c) ∧ w'.cell? ⟨g5, o5 + i, none⟩ = some (.slice Ab (ndN b).length cb) ∧ w'.cell? ⟨g5, o5 + pl, none⟩ = some (.slice Aa (ndN a).length ca))) (by kernel_rfl) (by (try dsimp only); simp [*]) (fun hHeld => ?_)
          change wpAnyH _ _ _ _ _ _ #[false, false, false, false, false, false, false, false, false, false, false, false, false, false, false, false, false, false, false] _ _
          refine wpAnyH_take (i := 0) (oi := ⟨some 20, _, _, _, _, _⟩) (v := ?_) rfl (by kernel_rfl) (by kernel_rfl) (by kernel_rfl) (fun _ _ _ h => h) (Or.inl ⟨by rfl, ?_⟩) (by assumption) ?_
          rotate_left
          · (intro w hSw; (try dsimp only at hSw); go_simp; (try (with_reducible rfl)))
          try simp only [Act.put, List.setIfInBounds_toArray, List.set_cons_zero, List.set_cons_succ]
          refine wpAnyH_take (i := 1) (oi := ⟨some 21, _, _, _, _, _⟩) (v := ?_) rfl (by kernel_rfl) (by kernel_rfl) (by kernel_rfl) (fun _ _ _ h => h) (Or.inl ⟨by rfl, ?_⟩) (by assumption) ?_
          rotate_left
          · (intro w hSw; (try dsimp only at hSw); go_simp; (try (with_reducible rfl)))
          try simp only [Act.put, List.setIfInBounds_toArray, List.set_cons_zero, List.set_cons_succ]
          refine wpAnyH_take (i := 2) (oi := ⟨some 22, _, _, _, _, _⟩) (v := ?_) rfl (by kernel_rfl) (by kernel_rfl) (by kernel_rfl) (fun _ _ _ h => h) (Or.inl ⟨by rfl, ?_⟩) (by assumption) ?_
          rotate_left
          · (intro w hSw; (try dsimp only at hSw); go_simp; (try (with_reducible rfl)))
          try simp only [Act.put, List.setIfInBounds_toArray, List.set_cons_zero, List.set_cons_succ]
          refine wpAnyH_take (i := 3) (oi := ⟨some 23, _, _, _, _, _⟩) (v := ?_) rfl (by kernel_rfl) (by kernel_rfl) (by kernel_rfl) (fun _ _ _ h => h) (Or.inl ⟨by rfl, ?_⟩) (by assumption) ?_
          rotate_left
          · (intro w hSw; (try dsimp only at hSw); go_simp; (try (with_reducible rfl)))
          try simp only [Act.put, List.setIfInBounds_toArray, List.set_cons_zero, List.set_cons_succ]
          refine wpAnyH_take (i := 4) (oi := ⟨some 24, _, _, _, _, _⟩) (v := ?_) rfl (by kernel_rfl) (by kernel_rfl) (by kernel_rfl) (fun _ _ _ h => h) (Or.inl ⟨by rfl, ?_⟩) (by assumption) ?_
          rotate_left
          · (intro w hSw; (try dsimp only at hSw); go_simp; (try (with_reducible rfl)))
          try simp only [Act.put, List.setIfInBounds_toArray, List.set_cons_zero, List.set_cons_succ]
          refine wpAnyH_ready (rs := [5]) (by kernel_rfl) (by simp) ?_
          refine AllReadyH.cons (o := ⟨some 25, _, _, _, _, _⟩) rfl (fun K hK => ?_) AllReadyH.nil
          go_simp
          (with_reducible refine HH.out.mono ?_); rintro e w4 ⟨rfl, rfl⟩; obtain ⟨k0, k1, -, -⟩ := (HG.out.drewN 1).two
          go_wp2_with fail
          refine hK.out _ _ (by (try dsimp only); simp [*]) (fun hHeld => ?_)
          clear hK K
          try simp only [List.setIfInBounds_toArray, List.set_cons_zero, List.set_cons_succ]
          refine wpAnyH_take (i := 6) (oi := ⟨some 26, _, _, _, _, _⟩) (v := ?_) rfl (by kernel_rfl) (by kernel_rfl) (by kernel_rfl) (fun _ _ _ h => h) (Or.inl ⟨by rfl, ?_⟩) (by assumption) ?_
          rotate_left
          · (intro w hSw; (try dsimp only at hSw); go_simp; (try (with_reducible rfl)))
          try simp only [Act.put, List.setIfInBounds_toArray, List.set_cons_zero, List.set_cons_succ]
          refine wpAnyH_take (i := 7) (oi := ⟨some 27, _, _, _, _, _⟩) (v := ?_) rfl (by kernel_rfl) (by kernel_rfl) (by kernel_rfl) (fun _ _ _ h => h) (Or.inl ⟨by rfl, ?_⟩) (by assumption) ?_
          rotate_left
          · (intro w hSw; (try dsimp only at hSw); go_simp; (try (with_reducible rfl)))
          try simp only [Act.put, List.setIfInBounds_toArray, List.set_cons_zero, List.set_cons_succ]
          refine wpAnyH_take (i := 8) (oi := ⟨some 28, _, _, _, _, _⟩) (v := ?_) rfl (by kernel_rfl) (by kernel_rfl) (by kernel_rfl) (fun _ _ _ h => h) (Or.inl ⟨by rfl, ?_⟩) (by assumption) ?_
          rotate_left
          · (intro w hSw; (try dsimp only at hSw); go_simp; (try (with_reducible rfl)))
          try simp only [Act.put, List.setIfInBounds_toArray, List.set_cons_zero, List.set_cons_succ]
          refine wpAnyH_take (i := 9) (oi := ⟨some 29, _, _, _, _, _⟩) (v := ?_) rfl (by kernel_rfl) (by kernel_rfl) (by kernel_rfl) (fun _ _ _ h => h) (Or.inl ⟨by rfl, ?_⟩) (by assumption) ?_
          rotate_left
          · (intro w hSw; (try dsimp only at hSw); go_simp; (try (with_reducible rfl)))
          try simp only [Act.put, List.setIfInBounds_toArray, List.set_cons_zero, List.set_cons_succ]
          refine wpAnyH_take (i := 10) (oi := ⟨some 30, _, _, _, _, _⟩) (v := ?_) rfl (by kernel_rfl) (by kernel_rfl) (by kernel_rfl) (fun _ _ _ h => h) (Or.inl ⟨by rfl, ?_⟩) (by assumption) ?_
          rotate_left
          · (intro w hSw; (try dsimp only at hSw); go_simp; (try (with_reducible rfl)))
          try simp only [Act.put, List.setIfInBounds_toArray, List.set_cons_zero, List.set_cons_succ]
          refine wpAnyH_take (i := 11) (oi := ⟨some 31, _, _, _, _, _⟩) (v := ?_) rfl (by kernel_rfl) (by kernel_rfl) (by kernel_rfl) (fun _ _ _ h => h) (Or.inl ⟨by rfl, ?_⟩) (by assumption) ?_
          rotate_left
          · (intro w hSw; (try dsimp only at hSw); go_simp; (try (with_reducible rfl)))
          try simp only [Act.put, List.setIfInBounds_toArray, List.set_cons_zero, List.set_cons_succ]
          refine wpAnyH_take (i := 12) (oi := ⟨some 32, _, _, _, _, _⟩) (v := ?_) rfl (by kernel_rfl) (by kernel_rfl) (by kernel_rfl) (fun _ _ _ h => h) (Or.inl ⟨by rfl, ?_⟩) (by assumption) ?_
          rotate_left
          · (intro w hSw; (try dsimp only at hSw); go_simp; (try (with_reducible rfl)))
          try simp only [Act.put, List.setIfInBounds_toArray, List.set_cons_zero, List.set_cons_succ]
          refine wpAnyH_take (i := 13) (oi := ⟨some 33, _, _, _, _, _⟩) (v := ?_) rfl (by kernel_rfl) (by kernel_rfl) (by kernel_rfl) (fun _ _ _ h => h) (Or.inl ⟨by rfl, ?_⟩) (by assumption) ?_
          rotate_left
          · (intro w hSw; (try dsimp only at hSw); go_simp; (try (with_reducible rfl)))
          try simp only [Act.put, List.setIfInBounds_toArray, List.set_cons_zero, List.set_cons_succ]
          refine wpAnyH_take (i := 14) (oi := ⟨some 34, _, _, _, _, _⟩) (v := ?_) rfl (by kernel_rfl) (by kernel_rfl) (by kernel_rfl) (fun _ _ _ h => h) (Or.inl ⟨by rfl, ?_⟩) (by assumption) ?_
          rotate_left
          · (intro w hSw; (try dsimp only at hSw); go_simp; (try (with_reducible rfl)))
          try simp only [Act.put, List.setIfInBounds_toArray, List.set_cons_zero, List.set_cons_succ]
          refine wpAnyH_take (i := 15) (oi := ⟨some 35, _, _, _, _, _⟩) (v := ?_) rfl (by kernel_rfl) (by kernel_rfl) (by kernel_rfl) (fun _ _ _ h => h) (Or.inl ⟨by rfl, ?_⟩) (by assumption) ?_
          rotate_left
          · (intro w hSw; (try dsimp only at hSw); go_simp; (try (with_reducible rfl)))
          try simp only [Act.put, List.setIfInBounds_toArray, List.set_cons_zero, List.set_cons_succ]
          refine wpAnyH_take (i := 16) (oi := ⟨some 36, _, _, _, _, _⟩) (v := ?_) rfl (by kernel_rfl) (by kernel_rfl) (by kernel_rfl) (fun _ _ _ h => h) (Or.inl ⟨by rfl, ?_⟩) (by assumption) ?_
          rotate_left
          · (intro w hSw; (try dsimp only at hSw); go_simp; (try (with_reducible rfl)))
          try simp only [Act.put, List.setIfInBounds_toArray, List.set_cons_zero, List.set_cons_succ]
          refine wpAnyH_ready (rs := [17]) (by kernel_rfl) (by simp) ?_
          refine AllReadyH.cons (o := ⟨some 37, _, _, _, _, _⟩) rfl (fun K hK => ?_) AllReadyH.nil
          go_simp
          (with_reducible refine (HM1.out wr.drew (Below.refl _ _).drew).mono ?_); rintro e w4 ⟨rfl, b4⟩; have d4 : Below wr.heap.size wr w4 := btrans (Below.refl _ _).drew b4; obtain ⟨i0_, i1_, -, -⟩ := (HG.out.below d4 HG.out.lt).two; have i2_ := nearv.cell_keep cb5 d4; have i3_ := nearv.cell_keep ca5 d4
          go_wp2_with fail
          refine hK.out _ _ (by (try dsimp only); simp [*]) (fun hHeld => ?_)
          clear hK K
          try simp only [List.setIfInBounds_toArray, List.set_cons_zero, List.set_cons_succ]
          refine wpAnyH_take (i := 18) (oi := ⟨some 38, _, _, _, _, _⟩) (v := ?_) rfl (by kernel_rfl) (by kernel_rfl) (by kernel_rfl) (fun _ _ _ h => h) (Or.inl ⟨by rfl, ?_⟩) (by assumption) ?_
          rotate_left
          · (intro w hSw; (try dsimp only at hSw); go_simp; (try (with_reducible rfl)))
          try simp only [Act.put, List.setIfInBounds_toArray, List.set_cons_zero, List.set_cons_succ]
          refine wpAnyH_done (by kernel_rfl) ?_ _
          have HG4 := Lib.hid (HG.out.below d4 HG.out.lt)
          have HR4 := Lib.hid (own_below HR.out d4)
          have HB4 := Lib.hid (btrans HB.out d4)
          clear p0 p1 k0 k1 hHeld ca5 cb5 i0_ i1_ i2_ i3_ d4 b4
          go_wp2_with fail
          go_roundg g2
          case measure => omega
          case rel => exact ⟨i + 1, _, rfl, by omega, by go_num, by rw [HN.out]; exact HR4.out, HG4.out, HB4.out⟩
        | true =>
          have HN := Lib.hid (HPY.out i b hb (by unfold ansB; rw [hbt, hmv]; rfl))
          rw [hmv] at HM1
          clear hbt hb hbm hub hu6 hrow hgb hB hmv
          go_wp2_with fail
          refine wp_region_held_drew (S := (fun w' : World => w'.cell? ⟨w.heap.size, 0, none⟩ = some (.int .i64 (n : Int)) ∧ w'.cell? ⟨w.heap.size, 1, none⟩ = some (.slice A l.length c) ∧ w'.cell? ⟨g5, o5 + i, none⟩ = some (.slice Ab (ndN b).length cb) ∧ w'.cell? ⟨g5, o5 + pl, none⟩ = some (.slice Aa (ndN a).length ca))) (by kernel_rfl) (by (try dsimp only); simp [*]) (fun hHeld => ?_)
          change wpAnyH _ _ _ _ _ _ #[false, false, false, false, false, false, false, false, false, false, false, false, false, false, false, false, false, false, false] _ _
          refine wpAnyH_take (i := 0) (oi := ⟨some 20, _, _, _, _, _⟩) (v := ?_) rfl (by kernel_rfl) (by kernel_rfl) (by kernel_rfl) (fun _ _ _ h => h) (Or.inl ⟨by rfl, ?_⟩) (by assumption) ?_
          rotate_left
          · (intro w hSw; (try dsimp only at hSw); go_simp; (try (with_reducible rfl)))
          try simp only [Act.put, List.setIfInBounds_toArray, List.set_cons_zero, List.set_cons_succ]
          refine wpAnyH_take (i := 1) (oi := ⟨some 21, _, _, _, _, _⟩) (v := ?_) rfl (by kernel_rfl) (by kernel_rfl) (by kernel_rfl) (fun _ _ _ h => h) (Or.inl ⟨by rfl, ?_⟩) (by assumption) ?_
          rotate_left
          · (intro w hSw; (try dsimp only at hSw); go_simp; (try (with_reducible rfl)))
          try simp only [Act.put, List.setIfInBounds_toArray, List.set_cons_zero, List.set_cons_succ]
          refine wpAnyH_take (i := 2) (oi := ⟨some 22, _, _, _, _, _⟩) (v := ?_) rfl (by kernel_rfl) (by kernel_rfl) (by kernel_rfl) (fun _ _ _ h => h) (Or.inl ⟨by rfl, ?_⟩) (by assumption) ?_
          rotate_left
          · (intro w hSw; (try dsimp only at hSw); go_simp; (try (with_reducible rfl)))
          try simp only [Act.put, List.setIfInBounds_toArray, List.set_cons_zero, List.set_cons_succ]
          refine wpAnyH_take (i := 3) (oi := ⟨some 23, _, _, _, _, _⟩) (v := ?_) rfl (by kernel_rfl) (by kernel_rfl) (by kernel_rfl) (fun _ _ _ h => h) (Or.inl ⟨by rfl, ?_⟩) (by assumption) ?_
          rotate_left
          · (intro w hSw; (try dsimp only at hSw); go_simp; (try (with_reducible rfl)))
          try simp only [Act.put, List.setIfInBounds_toArray, List.set_cons_zero, List.set_cons_succ]
          refine wpAnyH_take (i := 4) (oi := ⟨some 24, _, _, _, _, _⟩) (v := ?_) rfl (by kernel_rfl) (by kernel_rfl) (by kernel_rfl) (fun _ _ _ h => h) (Or.inl ⟨by rfl, ?_⟩) (by assumption) ?_
          rotate_left
          · (intro w hSw; (try dsimp only at hSw); go_simp; (try (with_reducible rfl)))
          try simp only [Act.put, List.setIfInBounds_toArray, List.set_cons_zero, List.set_cons_succ]
          refine wpAnyH_ready (rs := [5]) (by kernel_rfl) (by simp) ?_
          refine AllReadyH.cons (o := ⟨some 25, _, _, _, _, _⟩) rfl (fun K hK => ?_) AllReadyH.nil
          go_simp
          (with_reducible refine HH.out.mono ?_); rintro e w4 ⟨rfl, rfl⟩; obtain ⟨k0, k1, -, -⟩ := (HG.out.drewN 1).two
          go_wp2_with fail
          refine hK.out _ _ (by (try dsimp only); simp [*]) (fun hHeld => ?_)
          clear hK K
          try simp only [List.setIfInBounds_toArray, List.set_cons_zero, List.set_cons_succ]
          refine wpAnyH_take (i := 6) (oi := ⟨some 26, _, _, _, _, _⟩) (v := ?_) rfl (by kernel_rfl) (by kernel_rfl) (by kernel_rfl) (fun _ _ _ h => h) (Or.inl ⟨by rfl, ?_⟩) (by assumption) ?_
          rotate_left
          · (intro w hSw; (try dsimp only at hSw); go_simp; (try (with_reducible rfl)))
          try simp only [Act.put, List.setIfInBounds_toArray, List.set_cons_zero, List.set_cons_succ]
          refine wpAnyH_take (i := 7) (oi := ⟨some 27, _, _, _, _, _⟩) (v := ?_) rfl (by kernel_rfl) (by kernel_rfl) (by kernel_rfl) (fun _ _ _ h => h) (Or.inl ⟨by rfl, ?_⟩) (by assumption) ?_
          rotate_left
          · (intro w hSw; (try dsimp only at hSw); go_simp; (try (with_reducible rfl)))
          try simp only [Act.put, List.setIfInBounds_toArray, List.set_cons_zero, List.set_cons_succ]
          refine wpAnyH_take (i := 8) (oi := ⟨some 28, _, _, _, _, _⟩) (v := ?_) rfl (by kernel_rfl) (by kernel_rfl) (by kernel_rfl) (fun _ _ _ h => h) (Or.inl ⟨by rfl, ?_⟩) (by assumption) ?_
          rotate_left
          · (intro w hSw; (try dsimp only at hSw); go_simp; (try (with_reducible rfl)))
          try simp only [Act.put, List.setIfInBounds_toArray, List.set_cons_zero, List.set_cons_succ]
          refine wpAnyH_take (i := 9) (oi := ⟨some 29, _, _, _, _, _⟩) (v := ?_) rfl (by kernel_rfl) (by kernel_rfl) (by kernel_rfl) (fun _ _ _ h => h) (Or.inl ⟨by rfl, ?_⟩) (by assumption) ?_
          rotate_left
          · (intro w hSw; (try dsimp only at hSw); go_simp; (try (with_reducible rfl)))
          try simp only [Act.put, List.setIfInBounds_toArray, List.set_cons_zero, List.set_cons_succ]
          refine wpAnyH_take (i := 10) (oi := ⟨some 30, _, _, _, _, _⟩) (v := ?_) rfl (by kernel_rfl) (by kernel_rfl) (by kernel_rfl) (fun _ _ _ h => h) (Or.inl ⟨by rfl, ?_⟩) (by assumption) ?_
          rotate_left
          · (intro w hSw; (try dsimp only at hSw); go_simp; (try (with_reducible rfl)))
          try simp only [Act.put, List.setIfInBounds_toArray, List.set_cons_zero, List.set_cons_succ]
          refine wpAnyH_take (i := 11) (oi := ⟨some 31, _, _, _, _, _⟩) (v := ?_) rfl (by kernel_rfl) (by kernel_rfl) (by kernel_rfl) (fun _ _ _ h => h) (Or.inl ⟨by rfl, ?_⟩) (by assumption) ?_
          rotate_left
          · (intro w hSw; (try dsimp only at hSw); go_simp; (try (with_reducible rfl)))
          try simp only [Act.put, List.setIfInBounds_toArray, List.set_cons_zero, List.set_cons_succ]
          refine wpAnyH_take (i := 12) (oi := ⟨some 32, _, _, _, _, _⟩) (v := ?_) rfl (by kernel_rfl) (by kernel_rfl) (by kernel_rfl) (fun _ _ _ h => h) (Or.inl ⟨by rfl, ?_⟩) (by assumption) ?_
          rotate_left
          · (intro w hSw; (try dsimp only at hSw); go_simp; (try (with_reducible rfl)))
          try simp only [Act.put, List.setIfInBounds_toArray, List.set_cons_zero, List.set_cons_succ]
          refine wpAnyH_take (i := 13) (oi := ⟨some 33, _, _, _, _, _⟩) (v := ?_) rfl (by kernel_rfl) (by kernel_rfl) (by kernel_rfl) (fun _ _ _ h => h) (Or.inl ⟨by rfl, ?_⟩) (by assumption) ?_
          rotate_left
          · (intro w hSw; (try dsimp only at hSw); go_simp; (try (with_reducible rfl)))
          try simp only [Act.put, List.setIfInBounds_toArray, List.set_cons_zero, List.set_cons_succ]
          refine wpAnyH_take (i := 14) (oi := ⟨some 34, _, _, _, _, _⟩) (v := ?_) rfl (by kernel_rfl) (by kernel_rfl) (by kernel_rfl) (fun _ _ _ h => h) (Or.inl ⟨by rfl, ?_⟩) (by assumption) ?_
          rotate_left
          · (intro w hSw; (try dsimp only at hSw); go_simp; (try (with_reducible rfl)))
          try simp only [Act.put, List.setIfInBounds_toArray, List.set_cons_zero, List.set_cons_succ]
          refine wpAnyH_take (i := 15) (oi := ⟨some 35, _, _, _, _, _⟩) (v := ?_) rfl (by kernel_rfl) (by kernel_rfl) (by kernel_rfl) (fun _ _ _ h => h) (Or.inl ⟨by rfl, ?_⟩) (by assumption) ?_
          rotate_left
          · (intro w hSw; (try dsimp only at hSw); go_simp; (try (with_reducible rfl)))
          try simp only [Act.put, List.setIfInBounds_toArray, List.set_cons_zero, List.set_cons_succ]
          refine wpAnyH_take (i := 16) (oi := ⟨some 36, _, _, _, _, _⟩) (v := ?_) rfl (by kernel_rfl) (by kernel_rfl) (by kernel_rfl) (fun _ _ _ h => h) (Or.inl ⟨by rfl, ?_⟩) (by assumption) ?_
          rotate_left
          · (intro w hSw; (try dsimp only at hSw); go_simp; (try (with_reducible rfl)))
          try simp only [Act.put, List.setIfInBounds_toArray, List.set_cons_zero, List.set_cons_succ]
          refine wpAnyH_ready (rs := [17]) (by kernel_rfl) (by simp) ?_
          refine AllReadyH.cons (o := ⟨some 37, _, _, _, _, _⟩) rfl (fun K hK => ?_) AllReadyH.nil
          go_simp
          (with_reducible refine (HM1.out wr.drew (Below.refl _ _).drew).mono ?_); rintro e w4 ⟨rfl, b4⟩; have d4 : Below wr.heap.size wr w4 := btrans (Below.refl _ _).drew b4; obtain ⟨i0_, i1_, -, -⟩ := (HG.out.below d4 HG.out.lt).two; have i2_ := nearv.cell_keep cb5 d4; have i3_ := nearv.cell_keep ca5 d4
          go_wp2_with fail
          refine hK.out _ _ (by (try dsimp only); simp [*]) (fun hHeld => ?_)
          clear hK K
          try simp only [List.setIfInBounds_toArray, List.set_cons_zero, List.set_cons_succ]
          refine wpAnyH_take (i := 18) (oi := ⟨some 38, _, _, _, _, _⟩) (v := ?_) rfl (by kernel_rfl) (by kernel_rfl) (by kernel_rfl) (fun _ _ _ h => h) (Or.inl ⟨by rfl, ?_⟩) (by assumption) ?_
          rotate_left
          · (intro w hSw; (try dsimp only at hSw); go_simp; (try (with_reducible rfl)))
          try simp only [Act.put, List.setIfInBounds_toArray, List.set_cons_zero, List.set_cons_succ]
          refine wpAnyH_done (by kernel_rfl) ?_ _
          have HG4 := Lib.hid (HG.out.below d4 HG.out.lt)
          have HR4 := Lib.hid (own_below HR.out d4)
          have HB4 := Lib.hid (btrans HB.out d4)
          have hsz := HB4.out.size
          clear p0 p1 k0 k1 hHeld ca5 cb5 i0_ i1_ i2_ i3_ d4 b4
          generalize hPI : PF i = Pi at *
          go_wp2_with (at_builtin; refine wpList_append_own _ rfl _ _ 25 rfl (w.heap.size) 3 i0 (.int .i64 0) 1 8 Tryd.underlying25 hi hz0 hz1 hz2 rfl (by decide) _ _ _ rfl (HR4.out.alloc _) ⟨w4.heap.size, 0, none⟩ 1 1 [.int .i64 ((i : Int))] rfl rfl (cell_one_new _ _ _) (fun x hx => by simp at hx; subst hx; rfl) (by unfold maxLen; omega) (by omega) (by simp; omega) ?_; intro v2 w2 hown2 hgrow2 _)
          have hown3 : w2.ownsRow w.heap.size 3 1 v2 (Pi ++ [(i : Int)]).length (cellsI (Pi ++ [(i : Int)])) := by
            rw [List.length_append, show cellsI (Pi ++ [(i : Int)]) = cellsI Pi ++ [.int .i64 (i : Int)] from by simp [cellsI]]
            exact hown2
          have HR2 := Lib.hid hown3
          have HB2 := Lib.hid ((HB4.out.alloc hsz (.cells #[.int .i64 (i : Int)] 3)).grown hgrow2 (by simp; omega) (fun p_ e_ => (HR4.out.lt p_ e_).1))
          have HG2 := Lib.hid (mids.grown_blk (w := w4) HR4.out HG4.out (by decide) hgrow2)
          clear hown2 hgrow2 hown3 hPI
          go_roundg g2
          case measure => omega
          case rel => exact ⟨i + 1, v2, rfl, by omega, by go_num, by rw [HN.out]; exact HR2.out, HG2.out, HB2.out⟩
end Go.Proofs.YthpodbhiopnnbaaDoor.ups

/- A table whose rows are named from another one. -/
namespace Go.Proofs.YthpodbhiopnnbaaDoor.ups
open Go.RowKit P2 words edges ints owns grid gridr gridl
set_option linter.unusedVariables false

/-- a row that lies elsewhere is named in a table -/
theorem pickPush {w w6 : World} {B : Nat} {v u v6 : Value} {us : List Value} {rows : List (List Int)} {r : List Int} {o : Obj} (h : OwnG w B v us rows) (hu : w.ownsRow B 3 1 u r.length (cellsI r)) (hf : ∀ x ∈ us, ∀ k, x.ownBlock = some k → u.ownBlock ≠ some k)
    (hown : w6.ownsRow B 25 1 v6 (rows.length + 1) (us ++ [u])) (hg : (w.alloc o).grownBy w6 v.ownBlock) : OwnG w6 B v6 (us ++ [u]) (rows ++ [r]) := by
  have hlen := h.len
  have apart : ∀ {x : Value} {q : List Int}, w.ownsRow B 3 1 x q.length (cellsI q) → x.ownBlock = none ∨ x.ownBlock ≠ v.ownBlock := fun {x q} ho => by
    cases hh : x.ownBlock with
    | none => exact .inl rfl
    | some k => exact .inr (fun e => own_apart ho h.1 tneI k hh e.symm)
  refine ⟨by rw [List.length_append]; exact hown, ?_, ?_⟩
  · intro i x q hx hq
    by_cases hi : i < rows.length
    · rw [List.getElem?_append_left (by omega)] at hx
      rw [List.getElem?_append_left hi] at hq
      have ho := h.2.1 i x q hx hq
      exact (ho.alloc o).kept hg (apart ho)
    · have hi' : i = rows.length := by
        have := (List.getElem?_eq_some_iff.1 hq).1
        simp at this; omega
      subst hi'
      rw [List.getElem?_append_right (by omega), hlen, Nat.sub_self] at hx
      rw [List.getElem?_append_right (by omega), Nat.sub_self] at hq
      cases hx; cases hq
      exact (hu.alloc o).kept hg (apart hu)
  · intro i j x y k hij hx hy hxk
    by_cases hj : j < us.length
    · rw [List.getElem?_append_left hj] at hy
      rw [List.getElem?_append_left (by omega)] at hx
      exact h.2.2 i j x y k hij hx hy hxk
    · have hj' : j = us.length := by
        have := (List.getElem?_eq_some_iff.1 hy).1
        simp at this; omega
      subst hj'
      rw [List.getElem?_append_right (by omega), Nat.sub_self] at hy
      rw [List.getElem?_append_left hij] at hx
      cases hy
      exact hf x (List.mem_of_getElem? hx) k hxk
theorem pickKept {w w6 : World} {C D : Nat} {sv ov : Value} {us : List Value} {rows : List (List Int)} {o : Obj} (h : OwnGR C D w sv us rows) (hne : ∀ k, ov.ownBlock = some k → k < C ∨ D ≤ k) (hg : (w.alloc o).grownBy w6 ov.ownBlock) : OwnGR C D w6 sv us rows := by
  have key : ∀ {x : Value} {t : TypeId} {m : Nat} {q : List Value}, w.ownsRow C t 1 x m q → (∀ k, x.ownBlock = some k → k < D) → x.ownBlock = none ∨ x.ownBlock ≠ ov.ownBlock := fun {x t m q} hx hb => by
    cases hh : x.ownBlock with
    | none => exact .inl rfl
    | some k => exact .inr (fun e => by
        have h1 := (hx.lt k hh).1
        have h2 := hb k hh
        rcases hne k e.symm with h3 | h3 <;> omega)
  exact ⟨⟨(h.1.1.alloc o).kept hg (key h.1.1 h.2.1), fun i x q hx hq => ((h.1.2.1 i x q hx hq).alloc o).kept hg (key (h.1.2.1 i x q hx hq) (fun k hk => h.2.2 i x k hx hk)), h.1.2.2⟩, h.2⟩
/-- rows of a table sv (blocks from C to D), the first i of them, named in a table ov of the call's own -/
def Pick (w : World) (B C D i : Nat) (ov sv : Value) (os us : List Value) (O S : List (List Int)) : Prop :=
  OwnG w B ov os O ∧ OwnGR C D w sv us S ∧ (∀ u ∈ os, ∃ j, j < i ∧ us[j]? = some u) ∧ (∀ k, ov.ownBlock = some k → k < C ∨ D ≤ k) ∧ B ≤ C ∧ D ≤ w.heap.size
theorem Pick.below {w w' : World} {B C D i : Nat} {ov sv : Value} {os us : List Value} {O S : List (List Int)} (h : Pick w B C D i ov sv os us O S) (hb : Below w.heap.size w w') : Pick w' B C D i ov sv os us O S :=
  ⟨h.1.below hb, h.2.1.below hb, h.2.2.1, h.2.2.2.1, h.2.2.2.2.1, Nat.le_trans h.2.2.2.2.2 hb.size⟩
theorem Pick.more {w : World} {B C D i j : Nat} {ov sv : Value} {os us : List Value} {O S : List (List Int)} (h : Pick w B C D i ov sv os us O S) (hij : i ≤ j) : Pick w B C D j ov sv os us O S :=
  ⟨h.1, h.2.1, fun u hu => by obtain ⟨k, h1, h2⟩ := h.2.2.1 u hu; exact ⟨k, by omega, h2⟩, h.2.2.2⟩
theorem Pick.push {w w6 : World} {B C D i j : Nat} {ov sv v6 u : Value} {os us : List Value} {O S : List (List Int)} {r : List Int} {o : Obj} (h : Pick w B C D i ov sv os us O S) (hu : us[j]? = some u) (hr : S[j]? = some r) (hij : i ≤ j)
    (hown : w6.ownsRow B 25 1 v6 (O.length + 1) (os ++ [u])) (hg : (w.alloc o).grownBy w6 ov.ownBlock) (hl : v6.ownBlock = ov.ownBlock ∨ v6.ownBlock = some (w.alloc o).heap.size) : Pick w6 B C D (j + 1) v6 sv (os ++ [u]) us (O ++ [r]) S := by
  obtain ⟨h1, h2, h3, h4, h5, h6⟩ := h
  refine ⟨pickPush h1 (own_base (h2.1.2.1 j u r hu hr) h5) (fun x hx k hk => ?_) hown hg, pickKept h2 h4 hg, fun y hy => ?_, fun k hk => ?_, h5, ?_⟩
  · obtain ⟨m, hm, hm2⟩ := h3 x hx
    exact h2.1.2.2 m j x u k (by omega) hm2 hu hk
  · rcases List.mem_append.1 hy with hy | hy
    · obtain ⟨m, hm, hm2⟩ := h3 y hy; exact ⟨m, by omega, hm2⟩
    · rw [List.mem_singleton.1 hy]; exact ⟨j, by omega, hu⟩
  · rcases hl with e | e
    · exact h4 k (e.symm.trans hk)
    · rw [e, World.size_alloc] at hk
      have := Option.some.inj hk
      exact .inr (by omega)
  · have := hg.size
    rw [World.size_alloc] at this
    omega
end Go.Proofs.YthpodbhiopnnbaaDoor.ups

/- Guards: the contract of the model's l10Table. -/
namespace Go.Proofs.YthpodbhiopnnbaaDoor.ups
open Go.RowKit P2 words edges ints good adjs fns sets rets covs bags balls bitsI func lists times apps gridr grid trip
set_option linter.unusedVariables false

theorem infoGr : (Tryd.prog.info? 35).map (fun i => (i.zero, i.size, i.bytes)) = some (some (.slice none 0 0), 1, 24) := by kernel_rfl
theorem tneG : (25 : TypeId) ≠ 35 := by decide
theorem tneIG : (3 : TypeId) ≠ 35 := by decide
/-- a table of tables of the call's own -/
def OwnGG (w : World) (B : Nat) (v : Value) (us : List Value) (T : List (List (List Int))) : Prop :=
  w.ownsRow B 35 1 v T.length us ∧ ∀ (i : Nat) u R, us[i]? = some u → T[i]? = some R → ∃ uu, OwnG w B u uu R
theorem OwnGG.below {w w' : World} {B : Nat} {v : Value} {us : List Value} {T : List (List (List Int))} (h : OwnGG w B v us T) (hb : Below w.heap.size w w') : OwnGG w' B v us T :=
  ⟨own_below h.1 hb, fun i u R hu hR => by obtain ⟨uu, h2⟩ := h.2 i u R hu hR; exact ⟨uu, h2.below hb⟩⟩
theorem OwnGG.base {w : World} {B C : Nat} {v : Value} {us : List Value} {T : List (List (List Int))} (h : OwnGG w B v us T) (hC : C ≤ B) : OwnGG w C v us T :=
  ⟨own_base h.1 hC, fun i u R hu hR => by obtain ⟨uu, h2⟩ := h.2 i u R hu hR; exact ⟨uu, h2.base hC⟩⟩
theorem OwnGG.len {w : World} {B : Nat} {v : Value} {us : List Value} {T : List (List (List Int))} (h : OwnGG w B v us T) : us.length = T.length := by have := h.1.1; omega
theorem own_keptG {w w6 : World} {B C n : Nat} {u v : Value} {uu xs : List Value} {R : List (List Int)} {o : Obj} (h : OwnG w C u uu R) (hv : w.ownsRow B 35 1 v n xs) (hg : (w.alloc o).grownBy w6 v.ownBlock) : OwnG w6 C u uu R := by
  have key : ∀ {t : TypeId} {x : Value} {m : Nat} {q : List Value}, t ≠ 35 → w.ownsRow C t 1 x m q → w6.ownsRow C t 1 x m q := fun {t x m q} ht ho => (ho.alloc o).kept hg (by
    cases hh : x.ownBlock with
    | none => exact .inl rfl
    | some k => exact .inr fun e => own_apart ho hv ht k hh e.symm)
  exact ⟨key tneG h.1, fun i x q hx hq => key tneIG (h.2.1 i x q hx hq), h.2.2⟩
theorem OwnGG.push {w w6 : World} {B : Nat} {u v v6 : Value} {us uu : List Value} {T : List (List (List Int))} {R : List (List Int)} {o : Obj} (h : OwnGG w B v us T) (hr : OwnG w B u uu R) (hown : w6.ownsRow B 35 1 v6 (T.length + 1) (us ++ [u])) (hg : (w.alloc o).grownBy w6 v.ownBlock) : OwnGG w6 B v6 (us ++ [u]) (T ++ [R]) := by
  refine ⟨by rw [List.length_append]; exact hown, fun i x Q hx hQ => ?_⟩
  by_cases hi : i < T.length
  · rw [List.getElem?_append_left (by rw [h.len]; exact hi)] at hx
    rw [List.getElem?_append_left hi] at hQ
    obtain ⟨xx, h2⟩ := h.2 i x Q hx hQ
    exact ⟨xx, own_keptG h2 h.1 hg⟩
  · have hi' : i = T.length := by
      have := (List.getElem?_eq_some_iff.1 hQ).1
      simp at this; omega
    subst hi'
    rw [List.getElem?_append_right (by rw [h.len]; exact Nat.le_refl _), h.len, Nat.sub_self] at hx
    rw [List.getElem?_append_right (by omega), Nat.sub_self] at hQ
    cases hx; cases hQ
    exact ⟨uu, own_keptG hr h.1 hg⟩
/-- the places of the answers to all attacks on a set -/
def tbR (l : List Ed) (all : Bool) (L : List Nat) (a k : Nat) : List (List Int) := (List.range k).map fun x => if a.testBit x then [] else plL l all x a L
theorem tbR_succ (l : List Ed) (all : Bool) (L : List Nat) (a k : Nat) : tbR l all L a (k + 1) = tbR l all L a k ++ [if a.testBit k then [] else plL l all k a L] := by
  unfold tbR; rw [List.range_succ, List.map_append]; rfl
theorem tbR_len (l : List Ed) (all : Bool) (L : List Nat) (a k : Nat) : (tbR l all L a k).length = k := by simp [tbR]
def tblT (n : Nat) (l : List Ed) (all : Bool) (L : List Nat) (k : Nat) : List (List (List Int)) := (L.take k).map fun a => tbR l all L a n
theorem tblT_succ {n : Nat} {l : List Ed} {all : Bool} {L : List Nat} {k a : Nat} (h : L[k]? = some a) : tblT n l all L (k + 1) = tblT n l all L k ++ [tbR l all L a n] := by
  unfold tblT; rw [List.take_add_one, h, List.map_append]; rfl
theorem tblT_len (n : Nat) (l : List Ed) (all : Bool) (L : List Nat) {k : Nat} (h : k ≤ L.length) : (tblT n l all L k).length = k := by unfold tblT; rw [List.length_map, List.length_take]; omega
def tblL (n : Nat) (l : List Ed) (all : Bool) (L : List Nat) : List (List (List Int)) := tblT n l all L L.length
set_option maxHeartbeats 8000000 in
set_option maxRecDepth 100000 in
theorem l10Table_any (n k : Nat) (all : Bool) (v t : Value) (us : List Value) (L : List Nat) (l : List Ed) (w : World) (h : Edges w v l) (hl : l.length ≤ 1048576) (ht : ReadsG w t us (rowN L)) (hL : ∀ c ∈ L, c < 2 ^ n ∧ onesN c = k) (hLl : L.length ≤ 256) (hg : P2.Good (n : Int) l) (hn : n ≤ 8) :
    Calls Tryd.prog 93 #[.agg #[.int .i64 (n : Int), v], t, .bool all] w fun e w' => ∃ A c us, e = .returned (.slice A (tblL n l all L).length c) ∧ OwnGG w' w.heap.size (.slice A (tblL n l all L).length c) us (tblL n l all L) ∧ Below w.heap.size w w' := by
  obtain ⟨A, c, rfl, -⟩ := h.form
  obtain ⟨At, ct, rfl, -⟩ := ht.1
  obtain ⟨i1, hi1, hy0, hy1, hy2⟩ := info_parts infoRow
  obtain ⟨i2, hi2, hx0, hx1, hx2⟩ := info_parts infoGr
  have H := Lib.hid h
  have HT := Lib.hid ht
  have HRL := Lib.hid (rowN_len L)
  have hrl : (rowN L).length ≤ 256 := by rw [HRL.out]; exact hLl
  have HAN := Lib.hid (fun (i x a : Nat) (hi : L[i]? = some a) (W : World) (hW : Below w.heap.size w W) => l10Answers_any n k i x a all (.slice A l.length c) (.slice At (rowN L).length ct) us L l W (H.out.below hW) hl (HT.out.below hW) hL hLl hi hg hn)
  have HHS := Lib.hid (fun (a x : Nat) (ha : a < 256) (u : Value) (W : World) (hu : Ints W u (ndN a)) => (by have h_ := l1Has_any u (ndN a) (x : Int) W hu (by have := nw_len (bitB a) 8; unfold ndN; omega); rw [has_nd ha] at h_; exact h_ : Calls Tryd.prog 45 #[u, .int .i64 (x : Int)] W fun e w' => e = .returned (.bool (a.testBit x)) ∧ W = w'))
  have HB8 : Hid (∀ b ∈ L, b < 256) := fun b hb => Nat.lt_of_lt_of_le (hL b hb).1 (pow_le hn)
  have HB0 : Hid (Below w.heap.size w ((w.alloc (.cells #[.int .i64 (n : Int), .slice A l.length c] 29)).alloc (.cells #[] 35))) := ((Below.refl _ _).alloc (Nat.le_refl _) _).alloc (by simp) _
  have HG0 := Lib.hid ((Blk.new w 29 #[.int .i64 (n : Int), .slice A l.length c]).alloc (.cells #[] 35))
  have o0 := own_new0 (w.alloc (.cells #[.int .i64 (n : Int), .slice A l.length c] 29)) 35 1
  rw [World.size_alloc] at o0
  have HO0 : Hid (OwnGG ((w.alloc (.cells #[.int .i64 (n : Int), .slice A l.length c] 29)).alloc (.cells #[] 35)) w.heap.size (.slice (some ⟨w.heap.size + 1, 0, none⟩) 0 0) [] (tblT n l all L 0)) := ⟨own_base o0 (by omega), fun i u R hu => by simp at hu⟩
  have HTS : Hid (∀ i a, L[i]? = some a → tblT n l all L (i + 1) = tblT n l all L i ++ [tbR l all L a n]) := fun i a h => tblT_succ h
  have HTL : Hid (∀ i, i ≤ L.length → (tblT n l all L i).length = i) := fun i h => tblT_len n l all L h
  have HV : Hid (tblL n l all L = tblT n l all L L.length) := rfl
  clear h ht hg hL o0
  have HLL := Lib.hid hLl
  generalize tblT n l all L = TT at *
  go_enter Tryd.func93, Tryd.ntmps93
  go_wp2_with fail
  go_loopg [7, 8] L.length (fun g ov iv wr => ∃ (i : Nat) (ow : Value) (os : List Value), ow = ov ∧ i + g = L.length ∧ iv = .int .i64 (i : Int) ∧ OwnGG wr w.heap.size ow os (TT i) ∧ Blk wr w.heap.size 29 #[.int .i64 (n : Int), .slice A l.length c] ∧ Below w.heap.size w wr)
  case atStart => exact ⟨0, _, [], rfl, by omega, rfl, HO0.out, HG0.out, HB0.out⟩
  case round =>
    clear HO0 HG0 HB0
    obtain ⟨i, ow, os, rfl, hig, rfl, hgg, hgb, hB⟩ := hrel
    obtain ⟨A4, c4, rfl⟩ := own_form hgg.1
    obtain ⟨p0, p1, -, -⟩ := hgb.two
    have HB := Lib.hid hB
    have HG := Lib.hid hgb
    have HO := Lib.hid hgg
    cases gk with
    | zero =>
      obtain rfl : i = L.length := by omega
      have hnl : ¬ ((L.length : Int) < ((rowN L).length : Int)) := by rw [HRL.out]; omega
      clear hgg hgb hB
      go_wp2_with fail
      go_ret
      rw [HV.out]
      exact ⟨A4, c4, rfl, ⟨os, HO.out⟩, HB.out⟩
    | succ g2 =>
      have hlt : i < L.length := by omega
      have hlt' : (i : Int) < ((rowN L).length : Int) := by rw [HRL.out]; omega
      obtain ⟨a, ha⟩ : ∃ a, L[i]? = some a := ⟨_, List.getElem?_eq_getElem hlt⟩
      have ha8 := HB8.out a (List.mem_of_getElem? ha)
      obtain ⟨ua, g5, o5, hua5, hA5, ca5w, huaw⟩ := HT.out.row (rowN_at ha)
      subst hA5
      obtain ⟨Aa, ca, rfl, -⟩ := huaw.form
      have HCA := Lib.hid ca5w
      have HUA := Lib.hid huaw
      have HTX := Lib.hid (HTS.out i a ha)
      have HAN1 := Lib.hid (fun (x : Nat) (W : World) (hW : Below w.heap.size w W) => HAN.out i x a ha W hW)
      have HH1 := Lib.hid (fun (x : Nat) (W : World) (hW : Below w.heap.size w W) => HHS.out a x ha8 (.slice Aa (ndN a).length ca) W (HUA.out.below hW))
      have HRS := Lib.hid (tbR_succ l all L a)
      have HRN := Lib.hid (tbR_len l all L a)
      have hiT : (TT i).length ≤ 256 := by rw [HTL.out i (by omega)]; omega
      have hosl : os.length ≤ 256 := (hgg.len ▸ hiT)
      obtain ⟨wo, hwo⟩ : ∃ wo, wo = wr := ⟨_, rfl⟩
      subst hwo
      have HN0 : Hid (OwnG (wo.alloc (.cells #[] 25)) wo.heap.size (.slice (some ⟨wo.heap.size, 0, none⟩) 0 0) [] (tbR l all L a 0)) := ⟨own_new0 wo 25 1, fun i u r hu => by simp at hu, fun i j u u' k _ hu => by simp at hu⟩
      have HB1 : Hid (Below wo.heap.size wo (wo.alloc (.cells #[] 25))) := (Below.refl _ _).alloc (Nat.le_refl _) _
      clear ha ca5w huaw hgg hgb hB hua5
      generalize tbR l all L a = RT at *
      go_wp2_with fail
      go_loopg [9, 10] n (fun g nv xv wr => ∃ (x : Nat) (nw9 : Value) (us2 : List Value), nw9 = nv ∧ x + g = n ∧ xv = .int .i64 (x : Int) ∧ OwnG wr wo.heap.size nw9 us2 (RT x) ∧ Below wo.heap.size wo wr)
      case atStart => exact ⟨0, _, [], rfl, by omega, rfl, HN0.out, HB1.out⟩
      case round =>
        clear HN0 HB1
        obtain ⟨x, nw9, us2, rfl, hxg, rfl, hN, hB1⟩ := hrel
        obtain ⟨A9, c9, rfl⟩ := own_form hN.1
        have hgb := HG.out.below hB1 HG.out.lt
        clear p0 p1
        obtain ⟨p0, p1, -, -⟩ := hgb.two
        have HN := Lib.hid hN
        have HB1 := Lib.hid hB1
        have HBW := Lib.hid (btrans HB.out hB1)
        have hrx := HRN.out x
        cases gk with
        | zero =>
          obtain rfl : x = n := by omega
          have HO1 := Lib.hid (HO.out.below hB1)
          have HN1 := Lib.hid (hN.base HB.out.size)
          have HG1 := Lib.hid hgb
          have hown := HO1.out.1
          have hsz := HBW.out.size
          clear hN hB1 hgb
          have HRX := Lib.hid hrx
          clear hrx
          generalize RT x = Rx at *
          go_wp2_with (at_builtin; refine wpList_append_own _ rfl _ _ 109 rfl w.heap.size 35 i2 (.slice none 0 0) 1 24 Tryd.underlying109 hi2 hx0 hx1 hx2 rfl (by decide) _ _ _ rfl (hown.alloc _) ⟨wr.heap.size, 0, none⟩ 1 1 [.slice A9 Rx.length c9] rfl rfl (cell_one_new _ _ _) (fun x hx => by simp at hx; subst hx; rfl) (by unfold maxLen; omega) (by omega) (by simp; omega) ?_; intro v8 w8 hown8 hgrow8 _)
          have HO8 := Lib.hid (HO1.out.push HN1.out hown8 hgrow8)
          have HG8 := Lib.hid ((HG1.out.alloc (.cells #[.slice A9 Rx.length c9] 35)).grown hgrow8 (fun e => mids.own_ne hown HG1.out (by decide) e.symm))
          have HB8 := Lib.hid ((HBW.out.alloc hsz (.cells #[.slice A9 Rx.length c9] 35)).grown hgrow8 (by simp; omega) (fun p_ e_ => (hown.lt p_ e_).1))
          clear hown8 hgrow8 hown
          go_roundg g2
          case measure => omega
          case rel => exact ⟨i + 1, v8, _, rfl, by omega, by go_num, by rw [HTX.out]; exact HO8.out, HG8.out, HB8.out⟩
        | succ g3 =>
          have hlx : x < n := by omega
          have hlx' : (x : Int) < (n : Int) := by omega
          have ca5 := nearv.cell_keep HCA.out HBW.out
          have HH := Lib.hid (HH1.out x wr HBW.out)
          have HRX := Lib.hid (HRS.out x)
          have hu2 : us2.length ≤ 8 := by have := hN.len; omega
          have hsz1 := hB1.size
          have hrx8 : (RT x).length ≤ 8 := by omega
          clear hrx
          generalize RT x = Rx at *
          cases hb : a.testBit x with
          | true =>
            rw [hb] at HH HRX
            have hN' := hN
            clear hb hN hB1 hgb
            have HO2 := Lib.hid (own_new0 wr 3 1)
            have b2 : Below wr.heap.size wr (wr.alloc (.cells #[] 3)) := (Below.refl _ _).alloc (Nat.le_refl _) _
            have HB2 := Lib.hid b2
            have hownx := (HN.out.below b2).1
            clear hN' b2
            go_wp2_with fail
            refine HH.out.mono ?_
            rintro e w' ⟨rfl, rfl⟩
            go_wp2_with (at_builtin; refine wpList_append_own _ rfl _ _ 35 rfl wo.heap.size 25 i1 (.slice none 0 0) 1 24 Tryd.underlying35 hi1 hy0 hy1 hy2 rfl (by decide) _ _ _ rfl (hownx.alloc _) ⟨wr.heap.size + 1, 0, none⟩ 1 1 [.slice (some ⟨wr.heap.size, 0, none⟩) 0 0] rfl rfl (by have h_ := cell_one_new (wr.alloc (.cells #[] 3)) (.slice (some ⟨wr.heap.size, 0, none⟩) 0 0) 25; rw [World.size_alloc] at h_; exact h_) (fun x hx => by simp at hx; subst hx; rfl) (by unfold maxLen; omega) (by omega) (by simp; omega) ?_; intro v8 w8 hown8 hgrow8 _)
            have HN8 := Lib.hid (OwnG.push (r := []) HN.out HB2.out hsz1 HO2.out hown8 rfl hgrow8)
            have HB8 := Lib.hid (((btrans HB1.out HB2.out).alloc (by simp; omega) (.cells #[.slice (some ⟨wr.heap.size, 0, none⟩) 0 0] 25)).grown hgrow8 (by simp; omega) (fun p_ e_ => (hownx.lt p_ e_).1))
            clear hown8 hgrow8 hownx ca5
            go_roundg g3
            case measure => omega
            case rel => exact ⟨x + 1, v8, _, rfl, by omega, by go_num, by rw [HRX.out]; exact HN8.out, HB8.out⟩
          | false =>
            rw [hb] at HH HRX
            have HA1 := Lib.hid (HAN1.out x wr HBW.out)
            have hpl : (plL l all x a L).length ≤ 256 := Nat.le_trans (nw_len _ _) HLL.out
            clear hb hN hB1 hgb
            generalize plL l all x a L = P at *
            go_wp2_with fail
            refine HH.out.mono ?_
            rintro e w' ⟨rfl, rfl⟩
            go_wp2_with fail
            refine HA1.out.mono ?_
            rintro e w5 ⟨A6, c6, rfl, o6, b6⟩
            have HB6 := Lib.hid b6
            have HO6 := Lib.hid o6
            have hownx := (HN.out.below b6).1
            have hs6 := b6.size
            clear o6 b6 ca5
            go_wp2_with (at_builtin; refine wpList_append_own _ rfl _ _ 35 rfl wo.heap.size 25 i1 (.slice none 0 0) 1 24 Tryd.underlying35 hi1 hy0 hy1 hy2 rfl (by decide) _ _ _ rfl (hownx.alloc _) ⟨w5.heap.size, 0, none⟩ 1 1 [.slice A6 P.length c6] rfl rfl (cell_one_new _ _ _) (fun x hx => by simp at hx; subst hx; rfl) (by unfold maxLen; omega) (by omega) (by simp; omega) ?_; intro v8 w8 hown8 hgrow8 _)
            have HN8 := Lib.hid (OwnG.push (r := P) HN.out HB6.out hsz1 HO6.out hown8 rfl hgrow8)
            have HB8 := Lib.hid (((btrans HB1.out HB6.out).alloc (by omega) (.cells #[.slice A6 P.length c6] 25)).grown hgrow8 (by simp; omega) (fun p_ e_ => (hownx.lt p_ e_).1))
            clear hown8 hgrow8 hownx
            go_roundg g3
            case measure => omega
            case rel => exact ⟨x + 1, v8, _, rfl, by omega, by go_num, by rw [HRX.out]; exact HN8.out, HB8.out⟩
end Go.Proofs.YthpodbhiopnnbaaDoor.ups

/- Guards: the model's resistances: mathematics. -/
namespace Go.Proofs.YthpodbhiopnnbaaDoor.ups
open Go.RowKit P2 words edges ints good adjs fns sets rets covs bitsI
set_option linter.unusedVariables false

/-- some answer has no number yet -/
def aftB (T P : List Int) : Bool := P.any fun p => decide (T.getD p.toNat 0 < 0)
/-- the greatest number of the answers -/
def aftN (T P : List Int) : Int := P.foldl (fun m p => max m (T.getD p.toNat 0)) 0
theorem aftN_nonneg (T : List Int) : ∀ (P : List Int) (m : Int), 0 ≤ m → 0 ≤ P.foldl (fun m p => max m (T.getD p.toNat 0)) m
  | [], m, h => h
  | p :: P, m, h => aftN_nonneg T P _ (by show 0 ≤ max m _; omega)
theorem aftB_some {T P : List Int} (h : aftB T P = true) : 0 < P.length := by
  unfold aftB at h
  cases P with
  | nil => cases h
  | cons _ _ => simp
/-- some attack has no answer left without a number -/
def falB (T : List Int) (R : List (List Int)) (a : Nat) : Bool := (List.range R.length).any fun x => !a.testBit x && !(aftB T (R.getD x []))
/-- the numbers behind so many rounds -/
noncomputable def rtT (n : Nat) (l : List Ed) (all : Bool) (L : List Nat) (t : Nat) : List Int := L.map fun a => if a ∈ usN n l all L t then -1 else resV n l all L a
theorem rtT_len (n : Nat) (l : List Ed) (all : Bool) (L : List Nat) (t : Nat) : (rtT n l all L t).length = L.length := by simp [rtT]
theorem rtT_at {n : Nat} {l : List Ed} {all : Bool} {L : List Nat} {t i a : Nat} (h : L[i]? = some a) : (rtT n l all L t)[i]? = some (if a ∈ usN n l all L t then -1 else resV n l all L a) := by
  unfold rtT; rw [List.getElem?_map, h]; rfl
theorem us_out {n : Nat} {l : List Ed} {all : Bool} {L : List Nat} {a : Nat} (ha : a ∈ L) : ∀ t, a ∉ usN n l all L t → ∃ s, s < t ∧ Dep n l all L a s
  | 0, h => absurd ha h
  | t + 1, h => by
    by_cases h2 : a ∈ usN n l all L t
    · exact ⟨t, by omega, h2, h⟩
    · obtain ⟨s, hs, hd⟩ := us_out ha t h2
      exact ⟨s, by omega, hd⟩
theorem rt_neg {n : Nat} {l : List Ed} {all : Bool} {L : List Nat} {t a : Nat} (ha : a ∈ L) : decide ((if a ∈ usN n l all L t then (-1 : Int) else resV n l all L a) < 0) = decide (a ∈ usN n l all L t) := by
  by_cases h : a ∈ usN n l all L t
  · rw [if_pos h, decide_eq_true h]; rfl
  · rw [if_neg h, decide_eq_false h]
    obtain ⟨s, _, hd⟩ := us_out ha t h
    rw [resV_dep hd]
    exact decide_eq_false (by omega)
theorem aft_hold {n : Nat} {l : List Ed} {all : Bool} {L : List Nat} {t x a : Nat} : aftB (rtT n l all L t) (plL l all x a L) = (usN n l all L t).any (ansB l all x a) := by
  rw [Bool.eq_iff_iff]
  unfold aftB
  rw [List.any_eq_true, List.any_eq_true]
  constructor
  · rintro ⟨p, hp, hd⟩
    unfold plL at hp
    obtain ⟨i, hi, hpi, rfl⟩ := mem_nw.1 hp
    obtain ⟨b, hb⟩ : ∃ b, L[i]? = some b := ⟨_, List.getElem?_eq_getElem hi⟩
    rw [plP_at hb] at hpi
    rw [show ((i : Int)).toNat = i from rfl, List.getD_eq_getElem?_getD, rtT_at hb] at hd
    have h2 := rt_neg (n := n) (l := l) (all := all) (t := t) (List.mem_of_getElem? hb)
    have h3 : decide (b ∈ usN n l all L t) = true := h2.symm.trans hd
    exact ⟨b, of_decide_eq_true h3, hpi⟩
  · rintro ⟨b, hb, hx⟩
    obtain ⟨i, hi⟩ := List.getElem?_of_mem (us_mem hb)
    have hil := (List.getElem?_eq_some_iff.1 hi).1
    refine ⟨(i : Int), ?_, ?_⟩
    · unfold plL
      exact mem_nw.2 ⟨i, hil, by rw [plP_at hi]; exact hx, rfl⟩
    · rw [show ((i : Int)).toNat = i from rfl, List.getD_eq_getElem?_getD, rtT_at hi]
      have h2 := rt_neg (n := n) (l := l) (all := all) (t := t) (us_mem hb)
      exact h2.trans (decide_eq_true hb)
theorem fal_hold {n : Nat} {l : List Ed} {all : Bool} {L : List Nat} {t a : Nat} : falB (rtT n l all L t) (tbR l all L a n) a = !holdB n l all (usN n l all L t) a := by
  unfold falB holdB
  rw [tbR_len, Bool.eq_iff_iff, Bool.not_eq_true', List.any_eq_true, List.all_eq_false]
  have key : ∀ x, x < n → ((!a.testBit x && !(aftB (rtT n l all L t) ((tbR l all L a n).getD x []))) = true ↔ ¬ (a.testBit x || (usN n l all L t).any (ansB l all x a)) = true) := fun x hx => by
    have h1 : (tbR l all L a n).getD x [] = if a.testBit x then [] else plL l all x a L := by
      unfold tbR
      rw [List.getD_eq_getElem?_getD, List.getElem?_map, List.getElem?_range hx]; rfl
    rw [h1]
    cases h : a.testBit x with
    | true => simp
    | false =>
      rw [if_neg (by decide), aft_hold]
      simp
  constructor
  · rintro ⟨x, hx, h⟩
    exact ⟨x, hx, (key x (List.mem_range.1 hx)).1 h⟩
  · rintro ⟨x, hx, h⟩
    exact ⟨x, hx, (key x (List.mem_range.1 hx)).2 h⟩
/-- within a round: the numbers of the first i sets are those behind it -/
noncomputable def nxT (n : Nat) (l : List Ed) (all : Bool) (L : List Nat) (t i : Nat) : List Int := (rtT n l all L (t + 1)).take i ++ (rtT n l all L t).drop i
theorem nxT_zero (n : Nat) (l : List Ed) (all : Bool) (L : List Nat) (t : Nat) : nxT n l all L t 0 = rtT n l all L t := by simp [nxT]
theorem nxT_all (n : Nat) (l : List Ed) (all : Bool) (L : List Nat) (t : Nat) : nxT n l all L t L.length = rtT n l all L (t + 1) := by
  unfold nxT
  rw [List.take_of_length_le (by rw [rtT_len]; exact Nat.le_refl _), List.drop_eq_nil_of_le (by rw [rtT_len]; exact Nat.le_refl _), List.append_nil]
theorem nxT_len (n : Nat) (l : List Ed) (all : Bool) (L : List Nat) (t : Nat) {i : Nat} (hi : i ≤ L.length) : (nxT n l all L t i).length = L.length := by
  unfold nxT
  rw [List.length_append, List.length_take, List.length_drop, rtT_len, rtT_len]; omega
theorem nxT_set {n : Nat} {l : List Ed} {all : Bool} {L : List Nat} {t i : Nat} {v : Int} (h : (rtT n l all L (t + 1))[i]? = some v) : (nxT n l all L t i).set i v = nxT n l all L t (i + 1) := by
  have hi := (List.getElem?_eq_some_iff.1 h).1
  have hi2 : i < (rtT n l all L t).length := by rw [rtT_len] at hi ⊢; exact hi
  unfold nxT
  rw [List.take_add_one, h, List.drop_eq_getElem_cons hi2]
  rw [List.set_append_right _ _ (by rw [List.length_take]; omega), List.length_take, Nat.min_eq_left (by omega), Nat.sub_self, List.set_cons_zero]
  simp
theorem nxT_keep {n : Nat} {l : List Ed} {all : Bool} {L : List Nat} {t i : Nat} {v : Int} (h : (rtT n l all L (t + 1))[i]? = some v) (k : (rtT n l all L t)[i]? = some v) : nxT n l all L t i = nxT n l all L t (i + 1) := by
  obtain ⟨hi, e⟩ := List.getElem?_eq_some_iff.1 k
  unfold nxT
  rw [List.take_add_one, h, List.drop_eq_getElem_cons hi, e]
  simp
/-- some set of the first i is beaten in this round -/
def grB (n : Nat) (l : List Ed) (all : Bool) (L : List Nat) (t i : Nat) : Bool := (L.take i).any fun a => decide (a ∈ usN n l all L t) && !holdB n l all (usN n l all L t) a
theorem grB_succ {n : Nat} {l : List Ed} {all : Bool} {L : List Nat} {t i a : Nat} (h : L[i]? = some a) : grB n l all L t (i + 1) = (grB n l all L t i || (decide (a ∈ usN n l all L t) && !holdB n l all (usN n l all L t) a)) := by
  unfold grB
  rw [List.take_add_one, h, List.any_append]; simp
theorem us_step {n : Nat} {l : List Ed} {all : Bool} {L : List Nat} {t a : Nat} : a ∈ usN n l all L (t + 1) ↔ a ∈ usN n l all L t ∧ holdB n l all (usN n l all L t) a = true := List.mem_filter
theorem grB_no {n : Nat} {l : List Ed} {all : Bool} {L : List Nat} {t : Nat} (h : grB n l all L t L.length = false) : usN n l all L (t + 1) = usN n l all L t := by
  refine List.filter_eq_self.2 fun a ha => ?_
  unfold grB at h
  rw [List.take_length, List.any_eq_false] at h
  have := h a (us_mem ha)
  rw [decide_eq_true ha] at this
  simpa using this
theorem grB_yes {n : Nat} {l : List Ed} {all : Bool} {L : List Nat} {t : Nat} (h : grB n l all L t L.length = true) : ¬ (usN n l all L (t + 1)).length = (usN n l all L t).length := by
  intro e
  have e2 := us_fix e
  unfold grB at h
  rw [List.take_length, List.any_eq_true] at h
  obtain ⟨a, ha, hb⟩ := h
  rw [Bool.and_eq_true, Bool.not_eq_true'] at hb
  have h1 := of_decide_eq_true hb.1
  have h2 := (us_step.1 (e2 ▸ h1 : a ∈ usN n l all L (t + 1))).2
  rw [hb.2] at h2; cases h2
theorem rtT_end {n : Nat} {l : List Ed} {all : Bool} {L : List Nat} {t : Nat} (h : usN n l all L (t + 1) = usN n l all L t) : rtT n l all L (t + 1) = L.map (resV n l all L) := by
  unfold rtT
  refine List.map_congr_left fun a ha => ?_
  rw [h]
  split
  · rename_i h2
    rw [resV_in h h2]
  · rfl
theorem rtT_zero (n : Nat) (l : List Ed) (all : Bool) (L : List Nat) : rtT n l all L 0 = List.replicate L.length (-1) := by
  unfold rtT
  rw [List.eq_replicate_iff]
  refine ⟨by simp, fun b hb => ?_⟩
  obtain ⟨a, ha, rfl⟩ := List.mem_map.1 hb
  exact if_pos ha
/-- what a round does to a set that falls -/
theorem rt_falls {n : Nat} {l : List Ed} {all : Bool} {L : List Nat} {t i a : Nat} (h : L[i]? = some a) (h1 : a ∈ usN n l all L t) (h2 : holdB n l all (usN n l all L t) a = false) : (rtT n l all L (t + 1))[i]? = some (t : Int) := by
  have h3 : a ∉ usN n l all L (t + 1) := fun k => by have := (us_step.1 k).2; rw [h2] at this; cases this
  rw [rtT_at h, if_neg h3, resV_dep ⟨h1, h3⟩]
theorem rt_stays {n : Nat} {l : List Ed} {all : Bool} {L : List Nat} {t i a : Nat} (h : L[i]? = some a) (h1 : a ∈ usN n l all L t) (h2 : holdB n l all (usN n l all L t) a = true) : (rtT n l all L (t + 1))[i]? = some (-1) := by
  rw [rtT_at h, if_pos (us_step.2 ⟨h1, h2⟩)]
theorem rt_fixed {n : Nat} {l : List Ed} {all : Bool} {L : List Nat} {t i a : Nat} (h : L[i]? = some a) (h1 : a ∉ usN n l all L t) : (rtT n l all L (t + 1))[i]? = some (resV n l all L a) := by
  rw [rtT_at h, if_neg (fun k => h1 (us_step.1 k).1)]
/-- a table of tables that can be read -/
def ReadsGG (w : World) (v : Value) (us : List Value) (T : List (List (List Int))) : Prop :=
  Reads w 1 v T.length us ∧ us.length = T.length ∧ ∀ (i : Nat) u R, us[i]? = some u → T[i]? = some R → ∃ uu, gridr.ReadsG w u uu R
theorem ReadsGG.below {w w' : World} {v : Value} {us : List Value} {T : List (List (List Int))} (h : ReadsGG w v us T) (hb : Below w.heap.size w w') : ReadsGG w' v us T :=
  ⟨h.1.below hb, h.2.1, fun i u R hu hR => by obtain ⟨uu, h2⟩ := h.2.2 i u R hu hR; exact ⟨uu, h2.below hb⟩⟩
theorem ReadsGG.row {w : World} {A : Option Addr} {n c : Nat} {us : List Value} {T : List (List (List Int))} (h : ReadsGG w (.slice A n c) us T) {i : Nat} {R : List (List Int)} (hR : T[i]? = some R) :
    ∃ u g o, us[i]? = some u ∧ A = some ⟨g, o, none⟩ ∧ w.cell? ⟨g, o + i, none⟩ = some u ∧ ∃ uu, gridr.ReadsG w u uu R := by
  have hi := (List.getElem?_eq_some_iff.1 hR).1
  obtain ⟨u, hu⟩ : ∃ u, us[i]? = some u := ⟨_, List.getElem?_eq_getElem (by rw [h.2.1]; exact hi)⟩
  obtain ⟨A', c', e, hx⟩ := h.1
  cases e
  obtain ⟨g, o, rfl, _, hj⟩ := hx (by omega)
  exact ⟨u, g, o, hu, rfl, hj i u hu, h.2.2 i u R hu hR⟩
theorem OwnGG.reads {w : World} {B : Nat} {v : Value} {us : List Value} {T : List (List (List Int))} (h : OwnGG w B v us T) : ReadsGG w v us T :=
  ⟨Reads.of_own h.1, h.len, fun i u R hu hR => by obtain ⟨uu, h2⟩ := h.2 i u R hu hR; exact ⟨uu, gridl.readsG_of_own h2⟩⟩
end Go.Proofs.YthpodbhiopnnbaaDoor.ups

/- The contracts of slices.Index, slices.Contains over integers, and of slices.IndexFunc, slices.ContainsFunc over slices of integers. -/
namespace Go.Proofs.YthpodbhiopnnbaaDoor.idx
open Go.RowKit P2 words edges ints fns func gridr
set_option linter.unusedVariables false

def idxE (tl : List Int) (x : Int) : Int := idxF (fun y => y == x) tl
set_option maxHeartbeats 1000000 in
theorem index_any (u : Value) (xs : List Int) (x : Int) (w : World) (hu : Ints w u xs) (hxl : xs.length ≤ 1048576) :
    Calls Tryd.prog 105 #[u, .int .i64 x] w fun e w' => e = .returned (.int .i64 (idxE xs x)) ∧ w = w' := by
  obtain ⟨A2, c2, rfl, hc⟩ := hu.form
  have HC := Lib.hid hc
  clear hu hc
  go_enter Tryd.func105, Tryd.ntmps105
  go_wp2_with fail
  go_loop [8] (fun i => ∃ k : Nat, k ≤ xs.length ∧ i = .int .i64 (k : Int) ∧ Hid (∀ j y, j < k → xs[j]? = some y → (y == x) = false)) (fun i => xs.length - (intOf i).toNat)
  case atStart => exact ⟨0, by omega, rfl, fun j e h => by omega⟩
  case round =>
    obtain ⟨k, hk, rfl, hno⟩ := hrel
    by_cases hlt : k < xs.length
    · have hlt' : (k : Int) < (xs.length : Int) := by omega
      obtain ⟨y, hy⟩ : ∃ y, xs[k]? = some y := ⟨_, List.getElem?_eq_getElem hlt⟩
      obtain ⟨g, o, rfl, c0⟩ := HC.out k y hy
      cases hp : (y == x) with
      | true =>
        have HN := Lib.hid (idxF_at (p := fun y => y == x) hno.out hy hp)
        have hp2 : (x == y) = true := by rw [BEq.comm]; exact hp
        clear hy hp
        go_wp2_with fail
        go_ret
        exact ⟨ret_int HN.out.symm, rfl⟩
      | false =>
        have HK := Lib.hid (func.no_succ (p := fun y => y == x) hno.out hy hp)
        have hp2 : (x == y) = false := by rw [BEq.comm]; exact hp
        clear hy hp
        go_wp2_with fail
        go_round
        case rel => exact ⟨k + 1, by omega, by go_num, HK⟩
        case measure => simp [intOf]; omega
    · obtain rfl : k = xs.length := by omega
      have HN := Lib.hid (idxF_none hno.out)
      go_wp2_with fail
      go_ret
      exact ⟨ret_int HN.out.symm, rfl⟩
theorem idx_mem (xs : List Int) (x : Int) : decide (0 ≤ idxE xs x) = decide (x ∈ xs) := by
  unfold idxE
  rw [idxF_any]
  by_cases h : x ∈ xs
  · rw [decide_eq_true h, List.any_eq_true]; exact ⟨x, h, by simp⟩
  · rw [decide_eq_false h, Bool.eq_false_iff]
    intro hh
    obtain ⟨y, hy, e⟩ := List.any_eq_true.1 hh
    have : y = x := by simpa using e
    subst this
    exact h hy
theorem contains_any (u : Value) (xs : List Int) (x : Int) (w : World) (hu : Ints w u xs) (hxl : xs.length ≤ 1048576) :
    Calls Tryd.prog 85 #[u, .int .i64 x] w fun e w' => e = .returned (.bool (decide (x ∈ xs))) ∧ w = w' := by
  have HI := Lib.hid (index_any u xs x w hu hxl)
  have HM := Lib.hid (idx_mem xs x)
  clear hu
  generalize idxE xs x = k at *
  go_enter Tryd.func85, Tryd.ntmps85
  go_wp2_with fail
  refine HI.out.mono ?_
  rintro e w' ⟨rfl, rfl⟩
  go_wp2_with fail
  go_ret
  exact ⟨ret_bool HM.out, rfl⟩
/-- a function value that answers for the rows of a slice of slices, in every world that goes on from w -/
structure FnG (w : World) (f : FuncId) (caps : Array Value) (us : List Value) (xs : List (List Int)) (p : List Int → Bool) : Prop where
  enter : ∀ (args : Array Value) (W : World), (callFunc f args).run Tryd.prog W = .ok (.enter f args) W
  call : ∀ W, Below w.heap.size w W → ∀ (k : Nat) u x, us[k]? = some u → xs[k]? = some x → Calls Tryd.prog f (#[u] ++ caps) W fun e W' => e = .returned (.bool (p x)) ∧ Below W.heap.size W W'
end Go.Proofs.YthpodbhiopnnbaaDoor.idx

/- Guards: the contracts of the program's isAttack and GuardAnswers. -/
namespace Go.Proofs.YthpodbhiopnnbaaDoor.ups
open Go.RowKit P2 words edges ints owns good adjs fns sets rets covs bags bitsI func lists least grid balls times idx
set_option linter.unusedVariables false

/-- an attack at a node without a guard -/
def AtOk (s : Int) (l : List Ed) (xs : List Int) (x : Int) : Prop := SetOk s l xs ∧ (0 ≤ x ∧ x < s) ∧ x ∉ xs
/-- the sets that answer it -/
def gaN (s : Int) (l : List Ed) (all : Bool) (xs : List Int) (x : Int) : List Nat := (setsK s.toNat xs.length).filter (ansB l all x.toNat (codeL xs))
set_option maxHeartbeats 4000000 in
set_option maxRecDepth 100000 in
theorem isAttack_any (s x : Int) (v u : Value) (l : List Ed) (xs : List Int) (w : World) (h : Edges w v l) (hl : l.length ≤ 1048576) (hu : Ints w u xs) (hxl : xs.length ≤ 1048576) :
    Calls Tryd.prog 49 #[.agg #[.int .i64 s, v], u, .int .i64 x] w fun e w' => e = .returned (.bool (okG (AtOk s l xs x))) ∧ Below w.heap.size w w' := by
  obtain ⟨A, c, rfl, -⟩ := h.form
  have H := Lib.hid h
  have HU := Lib.hid hu
  have b0 : Below w.heap.size w (w.alloc (.cells #[.int .i64 s, .slice A l.length c] 29)) := (Below.refl _ _).alloc (Nat.le_refl _) _
  have g0 := Blk.new w 29 #[.int .i64 s, .slice A l.length c]
  obtain ⟨p0, p1, -, -⟩ := g0.two
  have HS := Lib.hid (hasSet_any s (.slice A l.length c) u l xs _ (h.below b0) hl (hu.below b0) hxl)
  have HB0 := Lib.hid b0
  have HG0 := Lib.hid g0
  have HN := Lib.hid (fun (W : World) (hW : Below w.heap.size w W) => hasNodes_any s (.slice A l.length c) (.slice (some ⟨W.heap.size, 0, none⟩) 1 1) l [x] (W.alloc (.cells #[.int .i64 x] 3)) (H.out.below (hW.alloc hW.size _)) hl (one_reads (Blk.new W 3 #[.int .i64 x])) (by simp))
  have HC := Lib.hid (fun (W : World) (hW : Below w.heap.size w W) => contains_any u xs x W (HU.out.below hW) hxl)
  clear h hu b0 g0
  by_cases hso : SetOk s l xs
  · rw [okG_yes hso] at HS
    by_cases hx : 0 ≤ x ∧ x < s
    · have hnb : nodesB s l [x] = true := nodesB_iff.2 ⟨hso.1, fun y hy => by rw [List.mem_singleton.1 hy]; exact hx⟩
      rw [hnb] at HN
      have HV : Hid (okG (AtOk s l xs x) = !decide (x ∈ xs)) := by
        show _ = _
        rw [Bool.eq_iff_iff, okG_iff, Bool.not_eq_true', decide_eq_false_iff_not]
        exact ⟨fun h => h.2.2, fun h => ⟨hso, hx, h⟩⟩
      clear hso hx hnb
      generalize decide (x ∈ xs) = bb at *
      go_enter Tryd.func49, Tryd.ntmps49
      go_wp2_with fail
      refine HS.out.mono ?_
      rintro e w1 ⟨rfl, b1⟩
      have HE1 := Lib.hid (btrans HB0.out b1)
      have HG1 := Lib.hid (HG0.out.below b1 HG0.out.lt)
      have HN1 := Lib.hid (HN.out w1 HE1.out)
      clear p0 p1 b1
      obtain ⟨p0, p1, -, -⟩ := HG1.out.two
      go_wp2_with fail
      refine HN1.out.mono ?_
      rintro e w2 ⟨rfl, b2⟩
      have HE2 := Lib.hid (HE1.out.trans ((b2.mono (by rw [World.size_alloc]; exact Nat.le_trans HE1.out.size (Nat.le_succ _)) : Below w.heap.size _ _) |> fun h_ => (((Below.refl w.heap.size w1).alloc HE1.out.size _).trans h_)))
      clear p0 p1 b2
      go_wp2_with fail
      refine (HC.out w2 HE2.out).mono ?_
      rintro e w' ⟨rfl, rfl⟩
      go_wp2_with fail
      go_ret
      rw [HV.out]
      exact ⟨rfl, HE2.out⟩
    · have hnb : nodesB s l [x] = false := nodesB_no fun h => hx (h.2 x (by simp))
      rw [hnb] at HN
      have HV : Hid (okG (AtOk s l xs x) = false) := okG_no fun h => hx h.2.1
      clear hso hx hnb
      go_enter Tryd.func49, Tryd.ntmps49
      go_wp2_with fail
      refine HS.out.mono ?_
      rintro e w1 ⟨rfl, b1⟩
      have HE1 := Lib.hid (btrans HB0.out b1)
      have HG1 := Lib.hid (HG0.out.below b1 HG0.out.lt)
      have HN1 := Lib.hid (HN.out w1 HE1.out)
      clear p0 p1 b1
      obtain ⟨p0, p1, -, -⟩ := HG1.out.two
      go_wp2_with fail
      refine HN1.out.mono ?_
      rintro e w2 ⟨rfl, b2⟩
      have HE2 := Lib.hid (HE1.out.trans ((b2.mono (by rw [World.size_alloc]; exact Nat.le_trans HE1.out.size (Nat.le_succ _)) : Below w.heap.size _ _) |> fun h_ => (((Below.refl w.heap.size w1).alloc HE1.out.size _).trans h_)))
      clear p0 p1 b2
      go_wp2_with fail
      go_ret
      rw [HV.out]
      exact ⟨rfl, HE2.out⟩
  · rw [okG_no hso] at HS
    have HV : Hid (okG (AtOk s l xs x) = false) := okG_no fun h => hso h.1
    clear hso
    go_enter Tryd.func49, Tryd.ntmps49
    go_wp2_with fail
    refine HS.out.mono ?_
    rintro e w1 ⟨rfl, b1⟩
    have HE1 := Lib.hid (btrans HB0.out b1)
    clear p0 p1 b1
    go_wp2_with fail
    go_ret
    rw [HV.out]
    exact ⟨rfl, HE1.out⟩
set_option maxHeartbeats 4000000 in
set_option maxRecDepth 100000 in
theorem implGa_any (s x : Int) (all : Bool) (v u : Value) (l : List Ed) (xs : List Int) (w : World) (hE : Env w) (h : Edges w v l) (hl : l.length ≤ 1048576) (hu : Ints w u xs) (hxl : xs.length ≤ 1048576) :
    Calls Tryd.prog 17 #[.agg #[.int .i64 s, v], u, .int .i64 x, .bool all] w (RetGr w (AtOk s l xs x) (rowN (gaN s l all xs x))) := by
  obtain ⟨A, c, rfl, -⟩ := h.form
  obtain ⟨A2, c2, rfl, -⟩ := hu.form
  have H := Lib.hid h
  have HU := Lib.hid hu
  have HEN := Lib.hid hE
  have b0 : Below w.heap.size w (w.alloc (.cells #[.int .i64 s, .slice A l.length c] 29)) := (Below.refl _ _).alloc (Nat.le_refl _) _
  have g0 := Blk.new w 29 #[.int .i64 s, .slice A l.length c]
  obtain ⟨p0, p1, -, -⟩ := g0.two
  have HS := Lib.hid (isAttack_any s x (.slice A l.length c) (.slice A2 xs.length c2) l xs _ (h.below b0) hl (hu.below b0) hxl)
  have HB0 := Lib.hid b0
  have HG0 := Lib.hid g0
  clear h hu b0 g0 hE
  by_cases hok : AtOk s l xs x
  · rw [okG_yes hok] at HS
    have HOK := Lib.hid hok
    have h0 := hok.1.1.1
    have h8 := hok.1.1.2.1
    have hx0 := hok.2.1.1
    have hx1 := hok.2.1.2
    obtain ⟨n, rfl⟩ : ∃ n : Nat, s = (n : Int) := ⟨s.toNat, by omega⟩
    obtain ⟨y, rfl⟩ : ∃ y : Nat, x = (y : Int) := ⟨x.toNat, by omega⟩
    have hn : n ≤ 8 := by omega
    have hy : y ≤ 8 := by omega
    have hk8 : xs.length ≤ 8 := Nat.le_trans (asc_len hok.1.2.2 hok.1.2.1) hn
    have HV : Hid (gaN (n : Int) l all xs (y : Int) = (setsK n xs.length).filter (ansB l all y (codeL xs))) := by show _ = _; unfold gaN; rw [Int.toNat_natCast, Int.toNat_natCast]
    have HWI := Lib.hid (fun (W : World) (hW : Below w.heap.size w W) => watchIn_any n xs.length all (.slice A l.length c) l W (H.out.below hW) hl hok.1.1 hn hk8)
    have HBO := Lib.hid (fun (W : World) (hW : Below w.heap.size w W) => bitsOf_any (.slice A2 xs.length c2) xs W (HU.out.below hW) hxl (fun x hx => by have := hok.1.2.1 x hx; omega))
    have HAN := Lib.hid (fun (W : World) (vc vs : Value) (hW : Below w.heap.size w W) (hc : Nums W vc (clos l n)) (hs : Nums W vs (setsK n xs.length)) => answers_any n (codeL xs) y all vc vs (setsK n xs.length) l W (HEN.out.next hW) hc hs (fun c hc => ((setsK_mem hn hk8).1 hc).1) (by have := setsK_len hn hk8; omega) hok.1.1 hn (code_set hok.1) hy)
    have HM8 : Hid (∀ c ∈ (setsK n xs.length).filter (ansB l all y (codeL xs)), c < 256) := fun c hc => Nat.lt_of_lt_of_le ((setsK_mem hn hk8).1 (List.mem_filter.1 hc).1).1 (pow_le hn)
    have hfl : ((setsK n xs.length).filter (ansB l all y (codeL xs))).length ≤ 1048576 := Nat.le_trans (List.length_filter_le _ _) (by have := setsK_len hn hk8; omega)
    clear hok
    generalize (setsK n xs.length).filter (ansB l all y (codeL xs)) = F at *
    generalize codeL xs = a at *
    go_enter Tryd.func17, Tryd.ntmps17
    go_wp2_with fail
    refine HS.out.mono ?_
    rintro e w1 ⟨rfl, b1⟩
    have HE1 := Lib.hid (btrans HB0.out b1)
    have HG1 := Lib.hid (HG0.out.below b1 HG0.out.lt)
    clear p0 p1 b1
    obtain ⟨p0, p1, -, -⟩ := HG1.out.two
    go_wp2_with fail
    refine (HWI.out w1 HE1.out).mono ?_
    rintro e w2 ⟨A3, c3, A4, c4, rfl, i3, o4, b2⟩
    have HE2 := Lib.hid (btrans HE1.out b2)
    have HAN2 := Lib.hid (HAN.out w2 _ _ HE2.out i3 (show Nums w2 _ _ from Reads.of_own o4))
    clear p0 p1 b2 i3 o4
    go_wp2_with fail
    refine (HBO.out w2 HE2.out).mono ?_
    rintro e w' ⟨rfl, rfl⟩
    go_wp2_with fail
    refine HAN2.out.mono ?_
    rintro e w3 ⟨A5, c5, rfl, o5, b3⟩
    have HE3 := Lib.hid (btrans HE2.out b3)
    have HRS := Lib.hid (resultsNd_any _ F w3 (show Nums w3 _ _ from Reads.of_own o5) HM8.out hfl)
    clear b3 o5
    go_wp2_with fail
    refine HRS.out.mono ?_
    rintro e w4 ⟨A6, c6, us, rfl, o6, b4⟩
    go_wp2_with fail
    go_ret2
    rw [HV.out]
    have o7 := o6.base HE3.out.size
    rw [← rowN_len F]
    exact RetGr.yes HOK.out o7 (btrans HE3.out b4)
  · rw [okG_no hok] at HS
    have HNO := Lib.hid hok
    clear hok
    go_enter Tryd.func17, Tryd.ntmps17
    go_wp2_with fail
    refine HS.out.mono ?_
    rintro e w1 ⟨rfl, b1⟩
    have HE1 := Lib.hid (btrans HB0.out b1)
    clear p0 p1 b1
    go_wp2_with fail
    go_ret2
    exact RetGr.nil HNO.out HE1.out
end Go.Proofs.YthpodbhiopnnbaaDoor.ups

/- Guards: the contracts of the program's hasGuards and GuardSets. -/
namespace Go.Proofs.YthpodbhiopnnbaaDoor.ups
open Go.RowKit P2 words edges ints owns good adjs fns sets rets covs bitsI func grid gridl
set_option linter.unusedVariables false

/-- a valid Graph and a number of guards in it -/
def GrdOk (s : Int) (l : List Ed) (k : Int) : Prop := P2.Good s l ∧ 0 ≤ k ∧ k ≤ s
def gsL (s k : Int) : List (List Int) := rowN (setsK s.toNat k.toNat)
theorem gs_len (s k : Int) (l : List Ed) : gridl.tot (gdG (GrdOk s l k) (gsL s k)) ≤ 1048576 ∧ (gdG (GrdOk s l k) (gsL s k)).length ≤ 1048576 := by
  by_cases h : GrdOk s l k
  · rw [gdG_yes h]
    have h8 := h.1.2.1
    have hk := h.2.2
    have h1 := setsK_len (n := s.toNat) (k := k.toNat) (by omega) (by omega)
    have h2 : ∀ r ∈ gsL s k, r.length ≤ 8 := fun r hr => by
      obtain ⟨c, hc, rfl⟩ := List.mem_map.1 hr
      exact nw_len _ _
    have h3 : gridl.tot (gsL s k) ≤ (gsL s k).length * 8 := by
      unfold gridl.tot
      generalize gsL s k = rows at h2 ⊢
      induction rows with
      | nil => simp
      | cons r rs ih =>
        have := ih (fun r hr => h2 r (List.mem_cons_of_mem _ hr))
        have := h2 r List.mem_cons_self
        simp only [List.map_cons, List.sum_cons, List.length_cons]
        omega
    have h4 : (gsL s k).length = (setsK s.toNat k.toNat).length := rowN_len _
    omega
  · rw [gdG_no h]; simp [gridl.tot]
set_option maxHeartbeats 2000000 in
set_option maxRecDepth 100000 in
theorem hasGuards_any (s k : Int) (v : Value) (l : List Ed) (w : World) (h : Edges w v l) (hl : l.length ≤ 1048576) :
    Calls Tryd.prog 57 #[.agg #[.int .i64 s, v], .int .i64 k] w fun e w' => e = .returned (.bool (okG (GrdOk s l k))) ∧ Below w.heap.size w w' := by
  obtain ⟨A, c, rfl, -⟩ := h.form
  have b0 : Below w.heap.size w (w.alloc (.cells #[.int .i64 s, .slice A l.length c] 29)) := (Below.refl _ _).alloc (Nat.le_refl _) _
  have g0 := Blk.new w 29 #[.int .i64 s, .slice A l.length c]
  obtain ⟨p0, p1, -, -⟩ := g0.two
  have HN := Lib.hid (implIsGraph_any s _ l _ (h.below b0) hl)
  have HB0 := Lib.hid b0
  have HG0 := Lib.hid g0
  clear h b0 g0
  by_cases hgd : P2.Good s l
  · rw [goodB_yes hgd] at HN
    have HV : Hid (okG (GrdOk s l k) = (decide (0 ≤ k) && decide (k ≤ s))) := by
      show _ = _
      rw [Bool.eq_iff_iff, okG_iff, Bool.and_eq_true, decide_eq_true_iff, decide_eq_true_iff]
      exact ⟨fun h => h.2, fun h => ⟨hgd, h⟩⟩
    clear hgd
    by_cases h1 : 0 ≤ k
    · by_cases h2 : k ≤ s
      · have HV2 : Hid (okG (GrdOk s l k) = true) := by show _ = _; rw [HV.out, decide_eq_true h1, decide_eq_true h2]; rfl
        go_enter Tryd.func57, Tryd.ntmps57
        go_wp2_with fail
        refine HN.out.mono ?_
        rintro e w1 ⟨rfl, b1⟩
        have HB1 := Lib.hid (btrans HB0.out b1)
        have hg1 := HG0.out.below b1 HG0.out.lt
        clear p0 p1
        obtain ⟨p0, p1, -, -⟩ := hg1.two
        clear b1 hg1
        go_wp2_with fail
        go_ret
        rw [HV2.out]
        exact ⟨rfl, HB1.out⟩
      · have HV2 : Hid (okG (GrdOk s l k) = false) := by show _ = _; rw [HV.out, decide_eq_true h1, decide_eq_false h2]; rfl
        go_enter Tryd.func57, Tryd.ntmps57
        go_wp2_with fail
        refine HN.out.mono ?_
        rintro e w1 ⟨rfl, b1⟩
        have HB1 := Lib.hid (btrans HB0.out b1)
        have hg1 := HG0.out.below b1 HG0.out.lt
        clear p0 p1
        obtain ⟨p0, p1, -, -⟩ := hg1.two
        clear b1 hg1
        go_wp2_with fail
        go_ret
        rw [HV2.out]
        exact ⟨ret_bool (decide_eq_false (by omega)), HB1.out⟩
    · have HV2 : Hid (okG (GrdOk s l k) = false) := by show _ = _; rw [HV.out, decide_eq_false h1]; rfl
      go_enter Tryd.func57, Tryd.ntmps57
      go_wp2_with fail
      refine HN.out.mono ?_
      rintro e w1 ⟨rfl, b1⟩
      have HB1 := Lib.hid (btrans HB0.out b1)
      clear p0 p1 b1
      go_wp2_with fail
      go_ret
      rw [HV2.out]
      exact ⟨rfl, HB1.out⟩
  · rw [goodB_no hgd] at HN
    have HV2 : Hid (okG (GrdOk s l k) = false) := okG_no fun h => hgd h.1
    clear hgd
    go_enter Tryd.func57, Tryd.ntmps57
    go_wp2_with fail
    refine HN.out.mono ?_
    rintro e w1 ⟨rfl, b1⟩
    have HB1 := Lib.hid (btrans HB0.out b1)
    clear p0 p1 b1
    go_wp2_with fail
    go_ret
    rw [HV2.out]
    exact ⟨rfl, HB1.out⟩
end Go.Proofs.YthpodbhiopnnbaaDoor.ups

/- Guards: the contracts of the model's l10Good, l10Sets and GuardSets. -/
namespace Go.Proofs.YthpodbhiopnnbaaDoor.ups
open Go.RowKit P2 words edges ints owns good adjs fns sets rets covs bitsI func grid gridl
set_option linter.unusedVariables false

theorem l10Sets_any (n m : Nat) (v : Value) (w : World) (hn : n ≤ 8) (hm : m ≤ 8) :
    Calls Tryd.prog 46 #[.agg #[.int .i64 (n : Int), v], .int .i64 (m : Int)] w (RetX w (rowN (setsK n m))) := by
  have b0 : Below w.heap.size w (w.alloc (.cells #[.int .i64 (n : Int), v] 29)) := (Below.refl _ _).alloc (Nat.le_refl _) _
  have g0 := Blk.new w 29 #[.int .i64 (n : Int), v]
  obtain ⟨p0, p1, -, -⟩ := g0.two
  have HA := Lib.hid (l2All_any n v (w.alloc (.cells #[.int .i64 (n : Int), v] 29)) hn)
  have HB0 := Lib.hid b0
  have HCH : Hid (∀ (u : Value) (W : World), Ints W u (allN n) → Calls Tryd.prog 82 #[u, .int .i64 (m : Int)] W (RetX W (rowN (setsK n m)))) := fun u W hu => by
    have h_ := l8Choices_any m (by omega) u (allN n) W hu (by rw [allN_len]; exact hn)
    have h2 := chL_sets ⟨n, by omega⟩ ⟨m, by omega⟩
    simp only at h2
    rw [h2] at h_
    exact h_
  clear b0 g0
  go_enter Tryd.func46, Tryd.ntmps46
  go_wp2_with fail
  refine HA.out.mono ?_
  rintro e w1 ⟨A1, c1, rfl, o1, b1⟩
  have HE1 := Lib.hid (btrans HB0.out b1)
  have HC := Lib.hid (HCH.out _ w1 (show Ints w1 _ _ from Reads.of_own o1))
  clear o1 b1
  go_wp2_with fail
  refine HC.out.mono ?_
  rintro e w2 ⟨A2, c2, us, rfl, o2, b2⟩
  go_wp2_with fail
  go_ret
  exact ⟨A2, c2, us, rfl, o2.base HE1.out.size, btrans HE1.out b2⟩
set_option maxHeartbeats 2000000 in
set_option maxRecDepth 100000 in
theorem l10Good_any (s k : Int) (v : Value) (l : List Ed) (w : World) (h : Edges w v l) (hl : l.length ≤ 1048576) (hs1 : -9223372036854775808 ≤ s) (hs2 : s ≤ 9223372036854775807) :
    Calls Tryd.prog 55 #[.agg #[.int .i64 s, v], .int .i64 k] w fun e w' => e = .returned (.bool (okG (GrdOk s l k))) ∧ Below w.heap.size w w' := by
  obtain ⟨A, c, rfl, -⟩ := h.form
  have b0 : Below w.heap.size w (w.alloc (.cells #[.int .i64 s, .slice A l.length c] 29)) := (Below.refl _ _).alloc (Nat.le_refl _) _
  have g0 := Blk.new w 29 #[.int .i64 s, .slice A l.length c]
  obtain ⟨p0, p1, -, -⟩ := g0.two
  have HGD := Lib.hid (l2Good_any s _ l _ (h.below b0) hl hs1 hs2)
  have HIN := Lib.hid (fun (W : World) => l1In_any k 0 s W)
  have HB0 := Lib.hid b0
  have HG0 := Lib.hid g0
  clear h b0 g0
  by_cases hgd : P2.Good s l
  · rw [goodB_yes hgd] at HGD
    have HV : Hid (okG (GrdOk s l k) = inB k 0 s) := by
      show _ = _
      unfold inB
      rw [Bool.eq_iff_iff, okG_iff, decide_eq_true_iff]
      exact ⟨fun h => h.2, fun h => ⟨hgd, h⟩⟩
    clear hgd
    go_enter Tryd.func55, Tryd.ntmps55
    go_wp2_with fail
    refine HGD.out.mono ?_
    rintro e w1 ⟨rfl, b1⟩
    have HB1 := Lib.hid (btrans HB0.out b1)
    have hg1 := HG0.out.below b1 HG0.out.lt
    clear p0 p1
    obtain ⟨p0, p1, -, -⟩ := hg1.two
    clear b1 hg1
    go_wp2_with fail
    refine (HIN.out _).mono ?_
    rintro e w' ⟨rfl, rfl⟩
    go_wp2_with fail
    go_ret
    rw [HV.out]
    exact ⟨rfl, HB1.out⟩
  · rw [goodB_no hgd] at HGD
    have HV2 : Hid (okG (GrdOk s l k) = false) := okG_no fun h => hgd h.1
    clear hgd
    go_enter Tryd.func55, Tryd.ntmps55
    go_wp2_with fail
    refine HGD.out.mono ?_
    rintro e w1 ⟨rfl, b1⟩
    have HB1 := Lib.hid (btrans HB0.out b1)
    clear p0 p1 b1
    go_wp2_with fail
    go_ret
    rw [HV2.out]
    exact ⟨rfl, HB1.out⟩
end Go.Proofs.YthpodbhiopnnbaaDoor.ups

/- Guards: the contracts of the model's LeastDominating. -/
namespace Go.Proofs.YthpodbhiopnnbaaDoor.ups
open Go.RowKit P2 words edges ints good adjs fns sets rets covs bags balls bitsI func costs
set_option linter.unusedVariables false

theorem code_nwD {n b : Nat} (hb : b < 2 ^ n) : codeL (nw (bitB b) n) = b := by
  have hs : ∀ x ∈ nw (bitB b) n, (0 : Int) ≤ x := fun x hx => by obtain ⟨j, _, _, rfl⟩ := mem_nw.1 hx; omega
  apply Nat.eq_of_testBit_eq
  intro i
  rw [code_bit hs, Bool.eq_iff_iff, decide_eq_true_iff, mem_nw]
  constructor
  · rintro ⟨j, _, hp, e⟩
    have : i = j := by omega
    subst this; exact hp
  · intro h
    refine ⟨i, ?_, h, rfl⟩
    by_cases e : i < n
    · exact e
    · rw [Nat.testBit_lt_two_pow (Nat.lt_of_lt_of_le hb (Nat.pow_le_pow_right (by decide) (by omega)))] at h
      cases h
theorem ld_len (s : Int) (l : List Ed) : (inG (P2.Good s l) (ndN (ldN s.toNat l))).length ≤ 1048576 := inG_len fun _ => by
  unfold ndN
  have := nw_len (bitB (ldN s.toNat l)) 8
  omega
end Go.Proofs.YthpodbhiopnnbaaDoor.ups

/- Guards: the contract of the model's GuardAnswers. -/
namespace Go.Proofs.YthpodbhiopnnbaaDoor.ups
open Go.RowKit P2 words edges ints owns good adjs fns sets rets covs bags balls bitsI func lists grid gridr trip
set_option linter.unusedVariables false

theorem setsK_nd {n k : Nat} (hn : n ≤ 8) (hk : k ≤ 8) {i j a b : Nat} (hij : i < j) (ha : (setsK n k)[i]? = some a) (hb : (setsK n k)[j]? = some b) : a ≠ b := by
  have h := (down_pair (sets_parts hn hk).2.2.1).sublist (List.filter_sublist (p := fun x => !decide (onesN x < k)))
  have h2 := List.pairwise_iff_getElem.1 h
  obtain ⟨h3, h4⟩ := List.getElem?_eq_some_iff.1 ha
  obtain ⟨h5, h6⟩ := List.getElem?_eq_some_iff.1 hb
  have := h2 i j h3 h5 hij
  intro e
  have h7 : (setsK n k)[i] = (setsK n k)[j] := by rw [h4, h6, e]
  unfold setsK at h7
  rw [h7] at this
  omega
theorem ndN_inj {a b : Nat} (ha : a < 256) (hb : b < 256) (h : ndN a = ndN b) : a = b := by
  have h1 : ∀ c, c < 256 → codeL (ndN c) = c := fun c hc => by
    have h_ := code_nwD (n := 8) (b := c) hc
    exact h_
  rw [← h1 a ha, ← h1 b hb, h]
/-- the place of a set among all of its size -/
theorem place_of {n k a : Nat} (hn : n ≤ 8) (hk : k ≤ 8) (ha : a < 2 ^ n) (ho : onesN a = k) : ∃ m, (setsK n k)[m]? = some a ∧ ∀ (j : Nat) (y : List Int), j < m → (rowN (setsK n k))[j]? = some y → y ≠ ndN a := by
  obtain ⟨m, hm⟩ := List.getElem?_of_mem ((setsK_mem hn hk).2 ⟨ha, ho⟩)
  refine ⟨m, hm, fun j y hj hy e => ?_⟩
  unfold rowN at hy
  rw [List.getElem?_map] at hy
  cases hb : (setsK n k)[j]? with
  | none => rw [hb] at hy; cases hy
  | some b =>
    rw [hb] at hy
    have hy : y = ndN b := by simpa using hy.symm
    have hb2 := ((setsK_mem hn hk).1 (List.mem_of_getElem? hb)).1
    rw [e] at hy
    exact setsK_nd hn hk hj hb hm (ndN_inj (Nat.lt_of_lt_of_le hb2 (pow_le hn)) (Nat.lt_of_lt_of_le ha (pow_le hn)) hy.symm)
/-- the lists at the first places -/
def pkT (l : List Ed) (all : Bool) (x a : Nat) (L : List Nat) (j : Nat) : List (List Int) := ((plL l all x a L).take j).map fun i => ndN (L.getD i.toNat 0)
theorem pkT_succ {l : List Ed} {all : Bool} {x a : Nat} {L : List Nat} {j i : Nat} (h : (plL l all x a L)[j]? = some (i : Int)) : pkT l all x a L (j + 1) = pkT l all x a L j ++ [ndN (L.getD i 0)] := by
  unfold pkT
  rw [List.take_add_one, h, List.map_append]; rfl
theorem pkT_all (l : List Ed) (all : Bool) (x a : Nat) (L : List Nat) : pkT l all x a L (plL l all x a L).length = rowN (L.filter (ansB l all x a)) := by
  unfold pkT plL rowN nw
  rw [List.take_length, List.map_map]
  have key : ∀ (M : List Nat), ((List.range M.length).filter (fun i => ansB l all x a (M.getD i 0))).map (fun i => M.getD i 0) = M.filter (ansB l all x a) := by
    intro M
    induction M with
    | nil => rfl
    | cons b M ih =>
      rw [List.length_cons, List.range_succ_eq_map, List.filter_cons, List.filter_map, List.filter_cons]
      have h2 : List.map (fun i => (b :: M).getD i 0) (List.map Nat.succ ((List.range M.length).filter ((fun i => ansB l all x a ((b :: M).getD i 0)) ∘ Nat.succ))) = M.filter (ansB l all x a) := by
        rw [List.map_map, ← ih]
        rfl
      show List.map _ (if ansB l all x a b = true then _ else _) = _
      split
      · rw [List.map_cons, h2]; rfl
      · exact h2
  rw [← key L, List.map_map]
  apply List.map_congr_left
  intro i _
  simp
theorem plL_at {l : List Ed} {all : Bool} {x a : Nat} {L : List Nat} {j : Nat} {z : Int} (h : (plL l all x a L)[j]? = some z) : ∃ i : Nat, z = (i : Int) ∧ i < L.length := by
  obtain ⟨i, hi, hlt, _⟩ := reach.nw_at h
  exact ⟨i, hi, hlt⟩
theorem plL_up {l : List Ed} {all : Bool} {x a : Nat} {L : List Nat} {j k : Nat} {i m : Nat} (hjk : j < k) (hi : (plL l all x a L)[j]? = some (i : Int)) (hm : (plL l all x a L)[k]? = some (m : Int)) : i < m := by
  have h := List.pairwise_iff_getElem.1 (nw_asc (plP l all x a L) L.length)
  obtain ⟨h1, e1⟩ := List.getElem?_eq_some_iff.1 hi
  obtain ⟨h2, e2⟩ := List.getElem?_eq_some_iff.1 hm
  have := h j k h1 h2 hjk
  unfold plL at e1 e2
  rw [e1, e2] at this
  omega
theorem nodeG_yes {x s : Int} (h : 0 ≤ x ∧ x < s) : inB x 0 (s - 1) = true := by unfold inB; exact decide_eq_true (by omega)
theorem nodeG_no {x s : Int} (h : ¬ (0 ≤ x ∧ x < s)) : inB x 0 (s - 1) = false := by unfold inB; exact decide_eq_false (by omega)
set_option maxHeartbeats 8000000 in
set_option maxRecDepth 100000 in
theorem specGa_any (s x : Int) (all : Bool) (v u : Value) (l : List Ed) (xs : List Int) (w : World) (h : Edges w v l) (hl : l.length ≤ 1048576) (hu : Ints w u xs) (hxl : xs.length ≤ 1048576) (hs1 : -9223372036854775808 ≤ s) (hs2 : s ≤ 9223372036854775807) :
    Calls Tryd.prog 16 #[.agg #[.int .i64 s, v], u, .int .i64 x, .bool all] w (RetGr w (AtOk s l xs x) (rowN (gaN s l all xs x))) := by
  obtain ⟨A, c, rfl, -⟩ := h.form
  obtain ⟨A2, c2, rfl, -⟩ := hu.form
  obtain ⟨i1, hi1, hy0, hy1, hy2⟩ := info_parts infoRow
  have H := Lib.hid h
  have HU := Lib.hid hu
  have b0 : Below w.heap.size w ((w.alloc (.cells #[.int .i64 s, .slice A l.length c] 29)).alloc (.cells #[] 25)) := ((Below.refl _ _).alloc (Nat.le_refl _) _).alloc (by simp) _
  have g0 := (Blk.new w 29 #[.int .i64 s, .slice A l.length c]).alloc (.cells #[] 25)
  have o0 := own_new0 (w.alloc (.cells #[.int .i64 s, .slice A l.length c] 29)) 25 1
  rw [World.size_alloc] at o0
  obtain ⟨p0, p1, -, -⟩ := g0.two
  have HGD := Lib.hid (l2Good_any s _ l _ (h.below b0) hl hs1 hs2)
  have HB0 := Lib.hid b0
  have HG0 := Lib.hid g0
  have HO0 := Lib.hid (own_base (B' := w.heap.size) o0 (by omega))
  clear h hu b0 g0 o0
  by_cases hgd : P2.Good s l
  · rw [goodB_yes hgd] at HGD
    have h0 := hgd.1
    have h8 := hgd.2.1
    obtain ⟨n, rfl⟩ : ∃ n : Nat, s = (n : Int) := ⟨s.toNat, by omega⟩
    have hn : n ≤ 8 := by omega
    have HST := Lib.hid (fun (W : World) (hW : Below w.heap.size w W) => l2Set_any (n : Int) (.slice A l.length c) (.slice A2 xs.length c2) l xs W (HU.out.below hW) hxl h0 h8)
    have HND := Lib.hid (fun (W : World) (hW : Below w.heap.size w W) => l2Node_any (n : Int) x (.slice A l.length c) l W (H.out.below hW) h0 h8)
    have HHS := Lib.hid (fun (W : World) (hW : Below w.heap.size w W) => l1Has_any (.slice A2 xs.length c2) xs x W (HU.out.below hW) hxl)
    by_cases hso : SetOk (n : Int) l xs
    · rw [okG_yes ((rises_set hgd).2 hso)] at HST
      by_cases hx : 0 ≤ x ∧ x < (n : Int)
      · rw [nodeG_yes hx] at HND
        by_cases hin : x ∈ xs
        · rw [decide_eq_true hin] at HHS
          have HNO : Hid (¬ AtOk (n : Int) l xs x) := fun h => h.2.2 hin
          clear hgd hso hx hin
          go_enter Tryd.func16, Tryd.ntmps16
          go_wp2_with fail
          refine HGD.out.mono ?_
          rintro e w1 ⟨rfl, b1⟩
          have HE1 := Lib.hid (btrans HB0.out b1)
          have HG1 := Lib.hid (HG0.out.below b1 HG0.out.lt)
          have HO1 := Lib.hid (own_below HO0.out b1)
          clear p0 p1 b1
          obtain ⟨p0, p1, -, -⟩ := HG1.out.two
          go_wp2_with fail
          refine (HST.out w1 HE1.out).mono ?_
          rintro e w2 ⟨rfl, b2⟩
          have HE2 := Lib.hid (btrans HE1.out b2)
          have HG2 := Lib.hid (HG1.out.below b2 HG1.out.lt)
          have HO2 := Lib.hid (own_below HO1.out b2)
          clear p0 p1 b2
          obtain ⟨p0, p1, -, -⟩ := HG2.out.two
          go_wp2_with fail
          refine (HND.out w2 HE2.out).mono ?_
          rintro e w3 ⟨rfl, b3⟩
          have HE3 := Lib.hid (btrans HE2.out b3)
          have HG3 := Lib.hid (HG2.out.below b3 HG2.out.lt)
          have HO3 := Lib.hid (own_below HO2.out b3)
          clear p0 p1 b3
          obtain ⟨p0, p1, -, -⟩ := HG3.out.two
          go_wp2_with fail
          refine (HHS.out w3 HE3.out).mono ?_
          rintro e w' ⟨rfl, rfl⟩
          clear p0 p1
          go_wp2_with fail
          go_ret2
          exact RetGr.no HNO.out HO3.out HE3.out
        · rw [decide_eq_false hin] at HHS
          have hok : AtOk (n : Int) l xs x := ⟨hso, hx, hin⟩
          have HOK := Lib.hid hok
          obtain ⟨y, rfl⟩ : ∃ y : Nat, x = (y : Int) := ⟨x.toNat, by omega⟩
          have hk8 : xs.length ≤ 8 := Nat.le_trans (asc_len hso.2.2 hso.2.1) hn
          have hxa := set_nd hn hso
          have HV : Hid (rowN (gaN (n : Int) l all xs (y : Int)) = pkT l all y (codeL xs) (setsK n xs.length) (plL l all y (codeL xs) (setsK n xs.length)).length) := by
            show _ = _
            rw [pkT_all]
            unfold gaN
            rw [Int.toNat_natCast, Int.toNat_natCast]
          obtain ⟨m, hm, hfst⟩ := place_of hn hk8 (code_set hso) (set_onesM hn hso)
          have HSE := Lib.hid (fun (W : World) => l10Sets_any n xs.length (.slice A l.length c) W hn hk8)
          have hsl := setsK_len hn hk8
          have HAT := Lib.hid (fun (t : Value) (us : List Value) (W : World) (hW : Below w.heap.size w W) (ht : ReadsG W t us (rowN (setsK n xs.length))) => l4AtI_any t (.slice A2 xs.length c2) us (rowN (setsK n xs.length)) xs m W ht (HU.out.below hW) (by have h_ := rowN_at hm; rw [← hxa] at h_; exact h_) (fun j z hj hz => by have h_ := hfst j z hj hz; rw [← hxa] at h_; exact h_) (fun r hr => by obtain ⟨z, _, rfl⟩ := List.mem_map.1 hr; have := nw_len (bitB z) 8; unfold ndN; omega) (by rw [rowN_len]; omega))
          have HAN := Lib.hid (fun (t : Value) (us : List Value) (W : World) (hW : Below w.heap.size w W) (ht : ReadsG W t us (rowN (setsK n xs.length))) => l10Answers_any n xs.length m y (codeL xs) all (.slice A l.length c) t us (setsK n xs.length) l W (H.out.below hW) hl ht (fun z hz => (setsK_mem hn hk8).1 hz) hsl hm hgd hn)
          have HPA : Hid (∀ (j : Nat) (z : Int), (plL l all y (codeL xs) (setsK n xs.length))[j]? = some z → ∃ i : Nat, z = (i : Int) ∧ i < (setsK n xs.length).length) := fun j z h => plL_at h
          have HPU : Hid (∀ (j k i q : Nat), j < k → (plL l all y (codeL xs) (setsK n xs.length))[j]? = some (i : Int) → (plL l all y (codeL xs) (setsK n xs.length))[k]? = some (q : Int) → i < q) := fun j k i q h1 h2 h3 => plL_up h1 h2 h3
          have HPS : Hid (∀ (j i : Nat), (plL l all y (codeL xs) (setsK n xs.length))[j]? = some (i : Int) → pkT l all y (codeL xs) (setsK n xs.length) (j + 1) = pkT l all y (codeL xs) (setsK n xs.length) j ++ [ndN ((setsK n xs.length).getD i 0)]) := fun j i h => pkT_succ h
          have hpl : (plL l all y (codeL xs) (setsK n xs.length)).length ≤ 256 := Nat.le_trans (nw_len _ _) hsl
          have HT0 : Hid (pkT l all y (codeL xs) (setsK n xs.length) 0 = []) := rfl
          have HTL : Hid (∀ j, j ≤ (plL l all y (codeL xs) (setsK n xs.length)).length → (pkT l all y (codeL xs) (setsK n xs.length) j).length = j) := fun j hj => by unfold pkT; rw [List.length_map, List.length_take]; omega
          have HRT := Lib.hid (rowN_len (setsK n xs.length))
          have hrl : (rowN (setsK n xs.length)).length ≤ 256 := by rw [HRT.out]; exact hsl
          clear hgd hso hx hin hok hm hfst hxa
          generalize pkT l all y (codeL xs) (setsK n xs.length) = PT at *
          generalize plL l all y (codeL xs) (setsK n xs.length) = PL at *
          generalize setsK n xs.length = LK at *
          generalize codeL xs = a at *
          go_enter Tryd.func16, Tryd.ntmps16
          go_wp2_with fail
          refine HGD.out.mono ?_
          rintro e w1 ⟨rfl, b1⟩
          have HE1 := Lib.hid (btrans HB0.out b1)
          have HG1 := Lib.hid (HG0.out.below b1 HG0.out.lt)
          have HO1 := Lib.hid (own_below HO0.out b1)
          clear p0 p1 b1
          obtain ⟨p0, p1, -, -⟩ := HG1.out.two
          go_wp2_with fail
          refine (HST.out w1 HE1.out).mono ?_
          rintro e w2 ⟨rfl, b2⟩
          have HE2 := Lib.hid (btrans HE1.out b2)
          have HG2 := Lib.hid (HG1.out.below b2 HG1.out.lt)
          have HO2 := Lib.hid (own_below HO1.out b2)
          clear p0 p1 b2
          obtain ⟨p0, p1, -, -⟩ := HG2.out.two
          go_wp2_with fail
          refine (HND.out w2 HE2.out).mono ?_
          rintro e w3 ⟨rfl, b3⟩
          have HE3 := Lib.hid (btrans HE2.out b3)
          have HG3 := Lib.hid (HG2.out.below b3 HG2.out.lt)
          have HO3 := Lib.hid (own_below HO2.out b3)
          clear p0 p1 b3
          obtain ⟨p0, p1, -, -⟩ := HG3.out.two
          go_wp2_with fail
          refine (HHS.out w3 HE3.out).mono ?_
          rintro e w' ⟨rfl, rfl⟩
          go_wp2_with fail
          refine (HSE.out w3).mono ?_
          rintro e w4 ⟨A5, c5, us5, rfl, o5, b4⟩
          have HE4 := Lib.hid (btrans HE3.out b4)
          have HG4 := Lib.hid (HG3.out.below b4 HG3.out.lt)
          have HO4 := Lib.hid (own_below HO3.out b4)
          have HS4 := Lib.hid o5
          have hz3 := HE3.out.size
          have hz4 := b4.size
          have HOB : Hid (∀ k, (Value.slice (some ⟨w.heap.size + 1, 0, none⟩) 0 0).ownBlock = some k → k < w3.heap.size ∨ w4.heap.size ≤ k) := fun k hk => .inl (HO3.out.lt k hk).2
          clear p0 p1 b4 o5
          obtain ⟨p0, p1, -, -⟩ := HG4.out.two
          go_wp2_with fail
          refine wp_region_held_drew (S := (fun w' : World => w'.cell? ⟨w.heap.size, 0, none⟩ = some (.int .i64 (n : Int)) ∧ w'.cell? ⟨w.heap.size, 1, none⟩ = some (.slice A l.length c))) (by kernel_rfl) (by (try dsimp only); simp [*]) (fun hHeld => ?_)
          change wpAnyH _ _ _ _ _ _ #[false, false, false, false, false, false, false, false, false] _ _
          refine wpAnyH_take (i := 0) (oi := ⟨some 40, _, _, _, _, _⟩) (v := ?_) rfl (by kernel_rfl) (by kernel_rfl) (by kernel_rfl) (fun _ _ _ h => h) (Or.inl ⟨by rfl, ?_⟩) (by assumption) ?_
          rotate_left
          · (intro w hSw; (try dsimp only at hSw); go_simp; (try (with_reducible rfl)))
          try simp only [Act.put, List.setIfInBounds_toArray, List.set_cons_zero, List.set_cons_succ]
          refine wpAnyH_take (i := 1) (oi := ⟨some 41, _, _, _, _, _⟩) (v := ?_) rfl (by kernel_rfl) (by kernel_rfl) (by kernel_rfl) (fun _ _ _ h => h) (Or.inl ⟨by rfl, ?_⟩) (by assumption) ?_
          rotate_left
          · (intro w hSw; (try dsimp only at hSw); go_simp; (try (with_reducible rfl)))
          try simp only [Act.put, List.setIfInBounds_toArray, List.set_cons_zero, List.set_cons_succ]
          refine wpAnyH_take (i := 2) (oi := ⟨some 42, _, _, _, _, _⟩) (v := ?_) rfl (by kernel_rfl) (by kernel_rfl) (by kernel_rfl) (fun _ _ _ h => h) (Or.inl ⟨by rfl, ?_⟩) (by assumption) ?_
          rotate_left
          · (intro w hSw; (try dsimp only at hSw); go_simp; (try (with_reducible rfl)))
          try simp only [Act.put, List.setIfInBounds_toArray, List.set_cons_zero, List.set_cons_succ]
          refine wpAnyH_take (i := 3) (oi := ⟨some 43, _, _, _, _, _⟩) (v := ?_) rfl (by kernel_rfl) (by kernel_rfl) (by kernel_rfl) (fun _ _ _ h => h) (Or.inl ⟨by rfl, ?_⟩) (by assumption) ?_
          rotate_left
          · (intro w hSw; (try dsimp only at hSw); go_simp; (try (with_reducible rfl)))
          try simp only [Act.put, List.setIfInBounds_toArray, List.set_cons_zero, List.set_cons_succ]
          refine wpAnyH_take (i := 5) (oi := ⟨some 45, _, _, _, _, _⟩) (v := ?_) rfl (by kernel_rfl) (by kernel_rfl) (by kernel_rfl) (fun _ _ _ h => h) (Or.inl ⟨by rfl, ?_⟩) (by assumption) ?_
          rotate_left
          · (intro w hSw; (try dsimp only at hSw); go_simp; (try (with_reducible rfl)))
          try simp only [Act.put, List.setIfInBounds_toArray, List.set_cons_zero, List.set_cons_succ]
          refine wpAnyH_take (i := 6) (oi := ⟨some 46, _, _, _, _, _⟩) (v := ?_) rfl (by kernel_rfl) (by kernel_rfl) (by kernel_rfl) (fun _ _ _ h => h) (Or.inl ⟨by rfl, ?_⟩) (by assumption) ?_
          rotate_left
          · (intro w hSw; (try dsimp only at hSw); go_simp; (try (with_reducible rfl)))
          try simp only [Act.put, List.setIfInBounds_toArray, List.set_cons_zero, List.set_cons_succ]
          refine wpAnyH_ready (rs := [4]) (by kernel_rfl) (by simp) ?_
          refine AllReadyH.cons (o := ⟨some 44, _, _, _, _, _⟩) rfl (fun K hK => ?_) AllReadyH.nil
          go_simp
          (with_reducible refine (HAT.out _ us5 w4.drew HE4.out.drew (gridl.readsG_of_own (HS4.out.below (Below.refl _ _).drew))).mono ?_); rintro e w5 ⟨rfl, b5⟩; have d5 : Below w4.heap.size w4 w5 := btrans (Below.refl _ _).drew b5; obtain ⟨k0, k1, -, -⟩ := (HG4.out.below d5 HG4.out.lt).two; have HE5 := Lib.hid (btrans HE4.out d5)
          go_wp2_with fail
          refine hK.out _ _ (by (try dsimp only); simp [*]) (fun hHeld => ?_)
          clear hK K
          try simp only [List.setIfInBounds_toArray, List.set_cons_zero, List.set_cons_succ]
          refine wpAnyH_ready (rs := [7]) (by kernel_rfl) (by simp) ?_
          refine AllReadyH.cons (o := ⟨some 47, _, _, _, _, _⟩) rfl (fun K hK => ?_) AllReadyH.nil
          go_simp
          (with_reducible refine (HAN.out _ us5 w5 HE5.out (gridl.readsG_of_own (HS4.out.below d5))).mono ?_); rintro e w6 ⟨A6, c6, rfl, o6, b6⟩; have d6 : Below w4.heap.size w4 w6 := btrans d5 b6; obtain ⟨j0, j1, -, -⟩ := (HG4.out.below d6 HG4.out.lt).two
          go_wp2_with fail
          refine hK.out _ _ (by (try dsimp only); simp [*]) (fun hHeld => ?_)
          clear hK K
          try simp only [List.setIfInBounds_toArray, List.set_cons_zero, List.set_cons_succ]
          refine wpAnyH_take (i := 8) (oi := ⟨some 12, _, _, _, _, _⟩) (v := ?_) rfl (by kernel_rfl) (by kernel_rfl) (by kernel_rfl) (fun _ _ _ h => h) (Or.inl ⟨by rfl, ?_⟩) (by assumption) ?_
          rotate_left
          · (intro w hSw; (try dsimp only at hSw); go_simp; (try (with_reducible rfl)))
          try simp only [Act.put, List.setIfInBounds_toArray, List.set_cons_zero, List.set_cons_succ]
          refine wpAnyH_done (by kernel_rfl) ?_ _
          have HE6 := Lib.hid (btrans HE4.out d6)
          have HPK : Hid (Pick w6 w.heap.size w3.heap.size w4.heap.size 0 (.slice (some ⟨w.heap.size + 1, 0, none⟩) 0 0) (.slice A5 (rowN LK).length c5) [] us5 [] (rowN LK)) :=
            ⟨⟨own_below HO4.out d6, fun i u r hu => by simp at hu, fun i j u u' k _ hu => by simp at hu⟩, (gridl.OwnGR.new HS4.out).below d6, fun u hu => by simp at hu, HOB.out, hz3, d6.size⟩
          have HP6 := Lib.hid (own_base (B' := w.heap.size) o6 HE5.out.size)
          clear d5 d6 b5 b6 k0 k1 j0 j1 o6 p0 p1 hHeld HS4 HO4 HOB HG4 HE5
          go_wp2_with fail
          go_loopg [10, 13] PL.length (fun g ov jv wr => ∃ (j b : Nat) (ow : Value) (os : List Value), ow = ov ∧ j + g = PL.length ∧ jv = .int .i64 (j : Int) ∧ Pick wr w.heap.size w3.heap.size w4.heap.size b ow (.slice A5 (rowN LK).length c5) os us5 (PT j) (rowN LK) ∧ Hid (∀ k i : Nat, j ≤ k → PL[k]? = some (i : Int) → b ≤ i) ∧ wr.ownsRow w.heap.size 3 1 (.slice A6 PL.length c6) PL.length (cellsI PL) ∧ Below w.heap.size w wr)
          case atStart => exact ⟨0, 0, _, [], rfl, by omega, rfl, by rw [HT0.out]; exact HPK.out, fun k i _ _ => Nat.zero_le _, HP6.out, HE6.out⟩
          case round =>
            clear HPK HP6
            obtain ⟨j, b, ow, os, rfl, hjg, rfl, hpk, hbd, hP, hB⟩ := hrel
            obtain ⟨A7, c7, rfl⟩ := own_form hpk.1.1
            have HB := Lib.hid hB
            have HPK := Lib.hid hpk
            have HP := Lib.hid hP
            cases gk with
            | zero =>
              obtain rfl : j = PL.length := by omega
              clear hpk hP hB
              go_wp2_with fail
              go_ret2
              rw [HV.out]
              exact RetGr.yes HOK.out HPK.out.1 HB.out
            | succ g2 =>
              have hlt : j < PL.length := by omega
              have hlt' : (j : Int) < (PL.length : Int) := by omega
              obtain ⟨z, hz⟩ : ∃ z, PL[j]? = some z := ⟨_, List.getElem?_eq_getElem hlt⟩
              obtain ⟨i, rfl, hiL⟩ := HPA.out j z hz
              obtain ⟨d, hd⟩ : ∃ d, LK[i]? = some d := ⟨_, List.getElem?_eq_getElem hiL⟩
              have hil' : (i : Int) < ((rowN LK).length : Int) := by rw [HRT.out]; omega
              obtain ⟨gp, hgp, cp, -, -⟩ := own_at (i := j) hP (show (cellsI PL)[j]? = some (.int .i64 (i : Int)) from by simp [cellsI, hz])
              subst hgp
              obtain ⟨u, g5, o5, hu, hA5, cs, hru⟩ := (gridl.readsG_of_own hpk.2.1.1).row (rowN_at hd)
              subst hA5
              obtain ⟨Ar, cr, rfl, -⟩ := hru.form
              have HN := Lib.hid (HPS.out j i hz)
              rw [show LK.getD i 0 = d from by rw [List.getD_eq_getElem?_getD, hd]; rfl] at HN
              have HRD := Lib.hid (rowN_at hd)
              have HU5 := Lib.hid hu
              have hbi := hbd.out j i (Nat.le_refl _) hz
              have HBD : Hid (∀ k q : Nat, j + 1 ≤ k → PL[k]? = some (q : Int) → i + 1 ≤ q) := fun k q h1 h2 => HPU.out j k i q (by omega) hz h2
              have hOl : (PT j).length ≤ 256 := by rw [HTL.out j (by omega)]; omega
              have hul : os.length ≤ 256 := (hpk.1.len ▸ hOl)
              have hown0 := hpk.1.1
              have hsz := hB.size
              clear hz hd hru hu hpk hP hB hbd
              generalize PT j = Oj at *
              go_wp2_with (at_builtin; refine wpList_append_own_at _ rfl _ _ 35 rfl w.heap.size 25 i1 (.slice none 0 0) 1 24 Tryd.underlying35 hi1 hy0 hy1 hy2 rfl (by decide) _ _ _ rfl (hown0.alloc _) ⟨wr.heap.size, 0, none⟩ 1 1 [.slice Ar (ndN d).length cr] rfl rfl (cell_one_new _ _ _) (fun x hx => by simp at hx; subst hx; rfl) (by unfold maxLen; omega) (by omega) (by simp; omega) ?_; intro v10 w10 hown10 hgrow10 _ hl10)
              have HPK2 := Lib.hid (HPK.out.push HU5.out HRD.out hbi hown10 hgrow10 hl10)
              have HP2 : Hid (w10.ownsRow w.heap.size 3 1 (.slice (some ⟨gp, 0, none⟩) PL.length c6) PL.length (cellsI PL)) := (HP.out.alloc _).kept hgrow10 (by
                cases hh : (Value.slice (some ⟨gp, 0, none⟩) PL.length c6).ownBlock with
                | none => exact .inl rfl
                | some k => exact .inr fun e => own_apart HP.out hown0 tneI k hh e.symm)
              have HB10 := Lib.hid ((HB.out.alloc hsz (.cells #[.slice Ar (ndN d).length cr] 25)).grown hgrow10 (by simp; omega) (fun p_ e_ => (hown0.lt p_ e_).1))
              clear hown10 hgrow10 hl10 hown0 cp cs
              go_roundg g2
              case measure => omega
              case rel => exact ⟨j + 1, i + 1, v10, _, rfl, by omega, by go_num, by rw [HN.out]; exact HPK2.out, HBD, HP2.out, HB10.out⟩
      · rw [nodeG_no hx] at HND
        have HNO : Hid (¬ AtOk (n : Int) l xs x) := fun h => hx h.2.1
        clear hgd hso hx
        go_enter Tryd.func16, Tryd.ntmps16
        go_wp2_with fail
        refine HGD.out.mono ?_
        rintro e w1 ⟨rfl, b1⟩
        have HE1 := Lib.hid (btrans HB0.out b1)
        have HG1 := Lib.hid (HG0.out.below b1 HG0.out.lt)
        have HO1 := Lib.hid (own_below HO0.out b1)
        clear p0 p1 b1
        obtain ⟨p0, p1, -, -⟩ := HG1.out.two
        go_wp2_with fail
        refine (HST.out w1 HE1.out).mono ?_
        rintro e w2 ⟨rfl, b2⟩
        have HE2 := Lib.hid (btrans HE1.out b2)
        have HG2 := Lib.hid (HG1.out.below b2 HG1.out.lt)
        have HO2 := Lib.hid (own_below HO1.out b2)
        clear p0 p1 b2
        obtain ⟨p0, p1, -, -⟩ := HG2.out.two
        go_wp2_with fail
        refine (HND.out w2 HE2.out).mono ?_
        rintro e w3 ⟨rfl, b3⟩
        have HE3 := Lib.hid (btrans HE2.out b3)
        have HG3 := Lib.hid (HG2.out.below b3 HG2.out.lt)
        have HO3 := Lib.hid (own_below HO2.out b3)
        clear p0 p1 b3
        obtain ⟨p0, p1, -, -⟩ := HG3.out.two
        clear p0 p1
        go_wp2_with fail
        go_ret2
        exact RetGr.no HNO.out HO3.out HE3.out
    · rw [okG_no (fun h => hso ((rises_set hgd).1 h))] at HST
      have HNO : Hid (¬ AtOk (n : Int) l xs x) := fun h => hso h.1
      clear hgd hso
      go_enter Tryd.func16, Tryd.ntmps16
      go_wp2_with fail
      refine HGD.out.mono ?_
      rintro e w1 ⟨rfl, b1⟩
      have HE1 := Lib.hid (btrans HB0.out b1)
      have HG1 := Lib.hid (HG0.out.below b1 HG0.out.lt)
      have HO1 := Lib.hid (own_below HO0.out b1)
      clear p0 p1 b1
      obtain ⟨p0, p1, -, -⟩ := HG1.out.two
      go_wp2_with fail
      refine (HST.out w1 HE1.out).mono ?_
      rintro e w2 ⟨rfl, b2⟩
      have HE2 := Lib.hid (btrans HE1.out b2)
      have HG2 := Lib.hid (HG1.out.below b2 HG1.out.lt)
      have HO2 := Lib.hid (own_below HO1.out b2)
      clear p0 p1 b2
      obtain ⟨p0, p1, -, -⟩ := HG2.out.two
      clear p0 p1
      go_wp2_with fail
      go_ret2
      exact RetGr.no HNO.out HO2.out HE2.out
  · rw [goodB_no hgd] at HGD
    have HNO : Hid (¬ AtOk s l xs x) := fun h => hgd h.1.1
    clear hgd
    go_enter Tryd.func16, Tryd.ntmps16
    go_wp2_with fail
    refine HGD.out.mono ?_
    rintro e w1 ⟨rfl, b1⟩
    have HE1 := Lib.hid (btrans HB0.out b1)
    have HG1 := Lib.hid (HG0.out.below b1 HG0.out.lt)
    have HO1 := Lib.hid (own_below HO0.out b1)
    clear p0 p1 b1
    obtain ⟨p0, p1, -, -⟩ := HG1.out.two
    clear p0 p1
    go_wp2_with fail
    go_ret2
    exact RetGr.no HNO.out HO1.out HE1.out
theorem rowN_tot (L : List Nat) : gridl.tot (rowN L) ≤ L.length * 8 := by
  unfold gridl.tot rowN
  induction L with
  | nil => simp
  | cons c L ih =>
    have : (ndN c).length ≤ 8 := nw_len _ _
    simp only [List.map_cons, List.sum_cons, List.length_cons] at ih ⊢
    omega
theorem gd_bound {p : Prop} {L : List Nat} (h : p → L.length ≤ 256) : gridl.tot (gdG p (rowN L)) ≤ 1048576 ∧ (gdG p (rowN L)).length ≤ 1048576 := by
  by_cases hp : p
  · rw [gdG_yes hp, rowN_len]
    have h1 := rowN_tot L
    have h2 := h hp
    omega
  · rw [gdG_no hp]; simp [gridl.tot]
theorem ga_len (s x : Int) (l : List Ed) (all : Bool) (xs : List Int) : gridl.tot (gdG (AtOk s l xs x) (rowN (gaN s l all xs x))) ≤ 1048576 ∧ (gdG (AtOk s l xs x) (rowN (gaN s l all xs x))).length ≤ 1048576 := gd_bound fun h => by
  have h8 := h.1.1.2.1
  have h0 := h.1.1.1
  obtain ⟨n, rfl⟩ : ∃ n : Nat, s = (n : Int) := ⟨s.toNat, by omega⟩
  have hn : n ≤ 8 := by omega
  have hk := Nat.le_trans (asc_len h.1.2.2 h.1.2.1) hn
  unfold gaN
  exact Nat.le_trans (List.length_filter_le _ _) (setsK_len (by omega) hk)
end Go.Proofs.YthpodbhiopnnbaaDoor.ups

/- Guards: the contracts of the model's l10After, l10Falls and l10Resist. -/
namespace Go.Proofs.YthpodbhiopnnbaaDoor.ups
open Go.RowKit P2 words edges ints owns good adjs fns sets rets covs bags balls bitsI func lists times apps gridr grid trip minmax
set_option linter.unusedVariables false

theorem foldl_take {T P : List Int} {k : Nat} {p : Int} (h : P[k]? = some p) : (P.take (k + 1)).foldl (fun m p => max m (T.getD p.toNat 0)) 0 = max ((P.take k).foldl (fun m p => max m (T.getD p.toNat 0)) 0) (T.getD p.toNat 0) := by
  rw [List.take_add_one, h, List.foldl_append]; rfl
set_option maxHeartbeats 8000000 in
set_option maxRecDepth 100000 in
theorem l10After_any (u t : Value) (P T : List Int) (w : World) (hu : Ints w u P) (ht : Ints w t T) (hP : ∀ p ∈ P, ∃ i : Nat, p = (i : Int) ∧ i < T.length) (hPl : P.length ≤ 1048576) (hTl : T.length ≤ 1048576) :
    Calls Tryd.prog 114 #[u, t] w fun e w' => e = .returned (.tuple #[.int .i64 (if aftB T P = true then -1 else aftN T P), .bool (decide (0 < P.length))]) ∧ Below w.heap.size w w' := by
  obtain ⟨A1, c1, rfl, -⟩ := hu.form
  obtain ⟨A2, c2, rfl, -⟩ := ht.form
  have HU := Lib.hid hu
  have HT := Lib.hid ht
  have HP := Lib.hid hP
  have HK0 : Hid (aftB T (P.take 0) = false) := rfl
  have HB0 : Hid (Below w.heap.size w w) := Below.refl _ _
  have HN : Hid (aftN T P = (P.take P.length).foldl (fun m p => max m (T.getD p.toNat 0)) 0) := by show _ = _; rw [List.take_length]; rfl
  have HB9 : Hid (∀ k, k = P.length → aftB T (P.take k) = false → aftB T P = false) := fun k e h => by rw [e, List.take_length] at h; exact h
  have HF : Hid (∀ k p, P[k]? = some p → (P.take (k + 1)).foldl (fun m p => max m (T.getD p.toNat 0)) 0 = max ((P.take k).foldl (fun m p => max m (T.getD p.toNat 0)) 0) (T.getD p.toNat 0)) := fun k p h => foldl_take h
  have HF0 : Hid ((P.take 0).foldl (fun m p => max m (T.getD p.toNat 0)) 0 = 0) := rfl
  have HTB : Hid (∀ k p, P[k]? = some p → aftB T (P.take k) = false → decide (T.getD p.toNat 0 < 0) = false → aftB T (P.take (k + 1)) = false) := fun k p h1 h2 h3 => by
    unfold aftB at h2 ⊢
    rw [List.take_add_one, h1, List.any_append, h2]
    simpa using h3
  have HYE : Hid (∀ (k : Nat) (p : Int), P[k]? = some p → T.getD p.toNat 0 < 0 → aftB T P = true ∧ 0 < P.length) := fun k p h1 h2 => ⟨List.any_eq_true.2 ⟨p, List.mem_of_getElem? h1, decide_eq_true h2⟩, by have := (List.getElem?_eq_some_iff.1 h1).1; omega⟩
  obtain ⟨rv, hrv⟩ : ∃ rv : Int, rv = if aftB T P = true then -1 else aftN T P := ⟨_, rfl⟩
  obtain ⟨ok, hok⟩ : ∃ ok : Bool, ok = decide (0 < P.length) := ⟨_, rfl⟩
  rw [← hrv, ← hok]
  have HRV := Lib.hid hrv
  have HOK := Lib.hid hok
  clear hu ht hP hrv hok
  generalize hAF : (fun k => (P.take k).foldl (fun m p => max m (T.getD p.toNat 0)) 0) = AF at *
  have hAFk : ∀ k, (P.take k).foldl (fun m p => max m (T.getD p.toNat 0)) 0 = AF k := fun k => congrFun hAF k
  simp only [hAFk] at HN HF HF0
  clear hAF hAFk
  go_enter Tryd.func114, Tryd.ntmps114
  go_wp2_with fail
  go_loopg [6, 7] P.length (fun g bv iv wr => ∃ k : Nat, k + g = P.length ∧ iv = .int .i64 (k : Int) ∧ bv = .int .i64 (AF k) ∧ Hid (aftB T (P.take k) = false) ∧ Below w.heap.size w wr)
  case atStart => exact ⟨0, by omega, rfl, by rw [HF0.out], HK0, HB0.out⟩
  case round =>
    clear HK0 HB0
    obtain ⟨k, hkg, rfl, rfl, hal, hB⟩ := hrel
    have HB := Lib.hid hB
    cases gk with
    | zero =>
      obtain rfl : k = P.length := by omega
      have HV : Hid (aftB T P = false) := HB9.out _ rfl hal.out
      clear hB
      have HR : Hid (rv = AF P.length) := by show _ = _; rw [HRV.out, HV.out, if_neg (by decide), HN.out]
      go_wp2_with fail
      go_ret2
      rw [HR.out, HOK.out]
      exact ⟨rfl, HB.out⟩
    | succ g2 =>
      have hlt : k < P.length := by omega
      have hlt' : (k : Int) < (P.length : Int) := by omega
      obtain ⟨p, hp⟩ : ∃ p, P[k]? = some p := ⟨_, List.getElem?_eq_getElem hlt⟩
      obtain ⟨i, rfl, hi⟩ := HP.out p (List.mem_of_getElem? hp)
      obtain ⟨v, hv⟩ : ∃ v, T[i]? = some v := ⟨_, List.getElem?_eq_getElem hi⟩
      have hgd : T.getD ((i : Int)).toNat 0 = v := by rw [show ((i : Int)).toNat = i from rfl, List.getD_eq_getElem?_getD, hv]; rfl
      have hi' : (i : Int) < (T.length : Int) := by omega
      obtain ⟨_, _, e1, hcc⟩ := (show Ints wr (.slice A1 P.length c1) P from HU.out.below hB).form
      cases e1
      obtain ⟨g1, o1, rfl, q1⟩ := hcc k _ hp
      obtain ⟨_, _, e2, hcc2⟩ := (show Ints wr (.slice A2 T.length c2) T from HT.out.below hB).form
      cases e2
      obtain ⟨g2_, o2, rfl, q2⟩ := hcc2 i _ hv
      by_cases hneg : v < 0
      · have HY := Lib.hid (HYE.out k _ hp (by rw [hgd]; exact hneg))
        have HR : Hid (rv = -1) := by show _ = _; rw [HRV.out, HY.out.1, if_pos rfl]
        have HK : Hid (ok = true) := by show _ = _; rw [HOK.out]; exact decide_eq_true HY.out.2
        clear hB hgd hp hv hcc hcc2
        go_wp2_with fail
        go_ret2
        rw [HR.out, HK.out]
        exact ⟨rfl, HB.out⟩
      · have HF1 := Lib.hid (HF.out k _ hp)
        rw [hgd] at HF1
        have HT1 := Lib.hid (HTB.out k _ hp hal.out (by rw [hgd]; exact decide_eq_false hneg))
        have HM := Lib.hid (fun (W : World) => l1Most_any (AF k) v W)
        clear hB hgd hp hv hcc hcc2
        go_wp2_with fail
        refine (HM.out _).mono ?_
        rintro e w' ⟨rfl, rfl⟩
        go_wp2_with fail
        go_roundg g2
        case measure => omega
        case rel => exact ⟨k + 1, by omega, by go_num, by rw [HF1.out], HT1, HB.out⟩
theorem fal_no {T : List Int} {R : List (List Int)} {a : Nat} (h : ∀ x, x < R.length → (!a.testBit x && !(aftB T (R.getD x []))) = false) : falB T R a = false := by
  unfold falB
  rw [List.any_eq_false]
  intro x hx
  rw [h x (List.mem_range.1 hx)]; decide
theorem fal_yes {T : List Int} {R : List (List Int)} {a x : Nat} (hx : x < R.length) (h : (!a.testBit x && !(aftB T (R.getD x []))) = true) : falB T R a = true := by
  unfold falB
  exact List.any_eq_true.2 ⟨x, List.mem_range.2 hx, h⟩
set_option maxHeartbeats 8000000 in
set_option maxRecDepth 100000 in
theorem l10Falls_any (u v t : Value) (us : List Value) (a : Nat) (R : List (List Int)) (T : List Int) (w : World) (hu : Ints w u (ndN a)) (hR : ReadsG w v us R) (ht : Ints w t T) (ha : a < 256) (hP : ∀ r ∈ R, (∀ p ∈ r, ∃ i : Nat, p = (i : Int) ∧ i < T.length) ∧ r.length ≤ 1048576) (hRl : R.length ≤ 1048576) (hTl : T.length ≤ 1048576) :
    Calls Tryd.prog 108 #[u, v, t] w fun e w' => e = .returned (.bool (falB T R a)) ∧ Below w.heap.size w w' := by
  obtain ⟨A1, c1, rfl, -⟩ := hu.form
  obtain ⟨A2, c2, rfl, -⟩ := hR.1
  have HHS := Lib.hid (fun (x : Nat) (W : World) (hW : Below w.heap.size w W) => (by have h_ := l1Has_any (.slice A1 (ndN a).length c1) (ndN a) (x : Int) W (hu.below hW) (by have := nw_len (bitB a) 8; unfold ndN; omega); rw [has_nd ha] at h_; exact h_ : Calls Tryd.prog 45 #[.slice A1 (ndN a).length c1, .int .i64 (x : Int)] W fun e w' => e = .returned (.bool (a.testBit x)) ∧ W = w'))
  have HAF := Lib.hid (fun (r : List Int) (hr : r ∈ R) (z : Value) (W : World) (hz : Ints W z r) (hW : Below w.heap.size w W) => l10After_any z t r T W hz (ht.below hW) (hP r hr).1 (hP r hr).2 hTl)
  have HR := Lib.hid hR
  have HB0 : Hid (Below w.heap.size w w) := Below.refl _ _
  have HNO : Hid ((∀ x, x < R.length → (!a.testBit x && !(aftB T (R.getD x []))) = false) → falB T R a = false) := fun h => fal_no h
  have HYE : Hid (∀ x, x < R.length → (!a.testBit x && !(aftB T (R.getD x []))) = true → falB T R a = true) := fun x hx h => fal_yes hx h
  obtain ⟨rv, hrv⟩ : ∃ rv : Bool, rv = falB T R a := ⟨_, rfl⟩
  rw [← hrv] at HNO HYE ⊢
  clear hu hR ht hP hrv
  go_enter Tryd.func108, Tryd.ntmps108
  go_wp2_with fail
  go_loopg [7] R.length (fun g iv wr => ∃ k : Nat, k + g = R.length ∧ iv = .int .i64 (k : Int) ∧ Hid (∀ x, x < k → (!a.testBit x && !(aftB T (R.getD x []))) = false) ∧ Below w.heap.size w wr)
  case atStart => exact ⟨0, by omega, rfl, fun x hx => absurd hx (Nat.not_lt_zero _), HB0.out⟩
  case round =>
    clear HB0
    obtain ⟨k, hkg, rfl, hal, hB⟩ := hrel
    have HB := Lib.hid hB
    cases gk with
    | zero =>
      obtain rfl : k = R.length := by omega
      have HV : Hid (rv = false) := HNO.out hal.out
      clear hB
      go_wp2_with fail
      go_ret
      rw [HV.out]
      exact ⟨rfl, HB.out⟩
    | succ g2 =>
      have hlt : k < R.length := by omega
      have hlt' : (k : Int) < (R.length : Int) := by omega
      obtain ⟨r, hr⟩ : ∃ r, R[k]? = some r := ⟨_, List.getElem?_eq_getElem hlt⟩
      have hgd : R.getD k [] = r := by rw [List.getD_eq_getElem?_getD, hr]; rfl
      obtain ⟨z, g5, o5, hz5, hA5, ca5, hza⟩ := (show ReadsG wr (.slice A2 R.length c2) us R from HR.out.below hB).row hr
      subst hA5
      obtain ⟨Az, cz, rfl, -⟩ := hza.form
      have HH := Lib.hid (HHS.out k wr hB)
      have HA := Lib.hid (HAF.out r (List.mem_of_getElem? hr) _ wr hza hB)
      have HAL : Hid ((!a.testBit k && !(aftB T r)) = false → ∀ x, x < k + 1 → (!a.testBit x && !(aftB T (R.getD x []))) = false) := fun h x hx => by
        by_cases e : x = k
        · subst e; rw [hgd]; exact h
        · exact hal.out x (by omega)
      have HY1 : Hid ((!a.testBit k && !(aftB T r)) = true → rv = true) := fun h => HYE.out k hlt (by rw [hgd]; exact h)
      have HNN := Lib.hid (show 0 ≤ aftN T r from aftN_nonneg T r 0 (Int.le_refl _))
      have HBS : Hid (aftB T r = true → 0 < r.length) := fun h => aftB_some h
      clear hr hgd hz5 hza hB
      cases hb : a.testBit k with
      | true =>
        rw [hb] at HH HAL
        have HAL1 := Lib.hid (HAL.out rfl)
        clear hb
        go_wp2_with fail
        refine HH.out.mono ?_
        rintro e w' ⟨rfl, rfl⟩
        go_wp2_with fail
        go_roundg g2
        case measure => omega
        case rel => exact ⟨k + 1, by omega, by go_num, HAL1, HB.out⟩
      | false =>
        rw [hb] at HH HAL HY1
        clear hb
        cases hq : aftB T r with
        | true =>
          rw [hq] at HAL HA
          have HAL1 := Lib.hid (HAL.out rfl)
          have HRL := HBS.out hq
          rw [decide_eq_true HRL] at HA
          clear hq HRL
          go_wp2_with fail
          refine HH.out.mono ?_
          rintro e w' ⟨rfl, rfl⟩
          go_wp2_with fail
          refine HA.out.mono ?_
          rintro e w5 ⟨rfl, b5⟩
          have HB5 := Lib.hid (btrans HB.out b5)
          clear b5
          go_wp2_with fail
          go_roundg g2
          case measure => omega
          case rel => exact ⟨k + 1, by omega, by go_num, HAL1, HB5.out⟩
        | false =>
          rw [hq] at HY1 HA
          have HV := Lib.hid (HY1.out rfl)
          have hnn := HNN.out
          clear hq
          generalize aftN T r = m at *
          generalize decide (0 < r.length) = ok at *
          go_wp2_with fail
          refine HH.out.mono ?_
          rintro e w' ⟨rfl, rfl⟩
          go_wp2_with fail
          refine HA.out.mono ?_
          rintro e w5 ⟨rfl, b5⟩
          have HB5 := Lib.hid (btrans HB.out b5)
          clear b5
          cases ok with
          | true =>
            go_wp2_with fail
            go_ret
            rw [HV.out]
            exact ⟨rfl, HB5.out⟩
          | false =>
            go_wp2_with fail
            go_ret
            rw [HV.out]
            exact ⟨rfl, HB5.out⟩
theorem cellsI_setR (l : List Int) (k : Nat) (x : Int) : (cellsI l).set k (.int .i64 x) = cellsI (l.set k x) := by simp [cellsI, List.map_set]
theorem rep_succ (k : Nat) : List.replicate (k + 1) (-1 : Int) = List.replicate k (-1) ++ [-1] := List.replicate_succ'
set_option maxHeartbeats 8000000 in
set_option maxRecDepth 100000 in
theorem l10Resist_any (n k : Nat) (all : Bool) (v t : Value) (us vs : List Value) (L : List Nat) (l : List Ed) (w : World) (ht : ReadsG w t us (rowN L)) (hv : ReadsGG w v vs (tblL n l all L)) (hL : ∀ c ∈ L, c < 2 ^ n ∧ onesN c = k) (hLl : L.length ≤ 256) (hn : n ≤ 8) :
    Calls Tryd.prog 92 #[t, v] w (RowI w (L.map (resV n l all L))) := by
  obtain ⟨At, ct, rfl, -⟩ := ht.1
  obtain ⟨Av, cv, rfl, -⟩ := hv.1
  obtain ⟨i0, hi, hz0, hz1, hz2⟩ := info_parts infoInt
  have HT := Lib.hid ht
  have HVV := Lib.hid hv
  have HRL := Lib.hid (rowN_len L)
  have HTL : Hid ((tblL n l all L).length = L.length) := tblT_len n l all L (Nat.le_refl _)
  have HTA : Hid (∀ i a, L[i]? = some a → (tblL n l all L)[i]? = some (tbR l all L a n)) := fun i a h => by
    unfold tblL tblT
    rw [List.take_length, List.getElem?_map, h]; rfl
  have HB8 : Hid (∀ b ∈ L, b < 256) := fun b hb => Nat.lt_of_lt_of_le (hL b hb).1 (pow_le hn)
  have HPR : Hid (∀ (a : Nat) (T : List Int), T.length = L.length → ∀ r ∈ tbR l all L a n, (∀ p ∈ r, ∃ i : Nat, p = (i : Int) ∧ i < T.length) ∧ r.length ≤ 1048576) := fun a T hT r hr => by
    unfold tbR at hr
    obtain ⟨x, _, rfl⟩ := List.mem_map.1 hr
    split
    · exact ⟨fun p hp => by simp at hp, by simp⟩
    · refine ⟨fun p hp => ?_, Nat.le_trans (nw_len _ _) (by omega)⟩
      obtain ⟨i, hi, _, rfl⟩ := mem_nw.1 hp
      exact ⟨i, rfl, by omega⟩
  have HFL := Lib.hid (fun (a : Nat) (ha : a < 256) (T : List Int) (hT : T.length = L.length) (z y x : Value) (uu : List Value) (W : World) (hz : Ints W z (ndN a)) (hy : ReadsG W y uu (tbR l all L a n)) (hx : Ints W x T) => l10Falls_any z y x uu a (tbR l all L a n) T W hz hy hx ha (HPR.out a T hT) (by rw [tbR_len]; omega) (by omega))
  have HZ := Lib.hid (rtT_zero n l all L)
  have b0 : Below w.heap.size w (w.alloc (.cells #[] 3)) := (Below.refl _ _).alloc (Nat.le_refl _) _
  have HB0 := Lib.hid b0
  have HO0 : Hid ((w.alloc (.cells #[] 3)).ownsRow w.heap.size 3 1 (.slice (some ⟨w.heap.size, 0, none⟩) 0 0) 0 (cellsI (List.replicate 0 (-1)))) := own_new0 w 3 1
  have HEND : Hid (∀ t, usN n l all L (t + 1) = usN n l all L t → rtT n l all L (t + 1) = L.map (resV n l all L)) := fun t h => rtT_end h
  obtain ⟨RV, hrv⟩ : ∃ RV : List Int, RV = L.map (resV n l all L) := ⟨_, rfl⟩
  rw [← hrv] at HEND ⊢
  have HRVL : Hid (RV.length = L.length) := by show _ = _; rw [hrv, List.length_map]
  have HLL := Lib.hid hLl
  clear ht hv hL b0 hrv
  go_enter Tryd.func92, Tryd.ntmps92
  go_wp2_with fail
  go_loopg [5, 6] L.length (fun g tv iv wr => ∃ (i : Nat) (ow : Value), ow = tv ∧ i + g = L.length ∧ iv = .int .i64 (i : Int) ∧ wr.ownsRow w.heap.size 3 1 ow i (cellsI (List.replicate i (-1))) ∧ Below w.heap.size w wr)
  case atStart => exact ⟨0, _, rfl, by omega, rfl, HO0.out, HB0.out⟩
  case round =>
    clear HO0 HB0
    obtain ⟨i, ow, rfl, hig, rfl, hown, hB⟩ := hrel
    obtain ⟨A4, c4, rfl⟩ := own_form hown
    have HB := Lib.hid hB
    have HO := Lib.hid hown
    cases gk with
    | succ g2 =>
      have hlt : i < L.length := by omega
      have hlt' : (i : Int) < ((rowN L).length : Int) := by rw [HRL.out]; omega
      have hsz := hB.size
      clear hown hB
      have hownx := HO.out
      go_wp2_with (at_builtin; refine wpList_append_own _ rfl _ _ 25 rfl w.heap.size 3 i0 (.int .i64 0) 1 8 Tryd.underlying25 hi hz0 hz1 hz2 rfl (by decide) _ _ _ rfl (hownx.alloc _) ⟨wr.heap.size, 0, none⟩ 1 1 [.int .i64 (-1)] rfl rfl (cell_one_new _ _ _) (fun x hx => by simp at hx; subst hx; rfl) (by unfold maxLen; omega) (by omega) (by simp; omega) ?_; intro v8 w8 hown8 hgrow8 _)
      have HO8 : Hid (w8.ownsRow w.heap.size 3 1 v8 (i + 1) (cellsI (List.replicate (i + 1) (-1)))) := by
        show World.ownsRow _ _ _ _ _ _ _
        rw [rep_succ, show cellsI (List.replicate i (-1) ++ [-1]) = cellsI (List.replicate i (-1)) ++ [.int .i64 (-1)] from by simp [cellsI]]
        exact hown8
      have HB8' := Lib.hid ((HB.out.alloc HB.out.size (.cells #[.int .i64 (-1)] 3)).grown hgrow8 (by simp; have := HB.out.size; omega) (fun p_ e_ => (HO.out.lt p_ e_).1))
      clear hown8 hgrow8 hownx
      go_roundg g2
      case measure => omega
      case rel => exact ⟨i + 1, v8, rfl, by omega, by go_num, HO8.out, HB8'.out⟩
    | zero =>
      obtain rfl : i = L.length := by omega
      have HO1 : Hid (wr.ownsRow w.heap.size 3 1 (.slice A4 L.length c4) L.length (cellsI (rtT n l all L 0))) := by
        show World.ownsRow _ _ _ _ _ _ _
        rw [HZ.out]; exact HO.out
      have hnl : ¬ ((L.length : Int) < ((rowN L).length : Int)) := by rw [HRL.out]; omega
      have HG0 : Hid (Goes n l all L 0) := Goes.zero n l all L
      clear hown hB HO
      go_wp2_with fail
      clear hnl
      go_loopg [5, 7] (L.length + 1) (fun g tv rv wr => ∃ (t : Nat) (A4 : Option Addr) (c4 : Nat), t + g = L.length + 1 ∧ tv = .slice A4 L.length c4 ∧ rv = .int .i64 (t : Int) ∧ Hid (Goes n l all L t) ∧ wr.ownsRow w.heap.size 3 1 (.slice A4 L.length c4) L.length (cellsI (rtT n l all L t)) ∧ Below w.heap.size w wr)
      case atStart => exact ⟨0, A4, c4, by omega, rfl, rfl, HG0, HO1.out, HB.out⟩
      case round =>
        clear HO1 HG0 HB
        obtain ⟨t, A4, c4, htg, rfl, rfl, hgo, hown, hB⟩ := hrel
        have htl : t ≤ L.length := by have := hgo.out; unfold Goes at this; omega
        cases gk with
        | zero => omega
        | succ g2 =>
          have hTL := rtT_len n l all L t
          have HTI : Hid (Ints wr (.slice A4 L.length c4) (rtT n l all L t)) := by
            show Ints _ _ _
            have h_ : Reads wr 1 (.slice A4 L.length c4) L.length (cellsI (rtT n l all L t)) := Reads.of_own hown
            unfold Ints
            rw [hTL]; exact h_
          have how := l1Own_any (.slice A4 L.length c4) (rtT n l all L t) wr HTI.out (by omega)
          unfold RowI at how
          rw [hTL] at how
          have HOW := Lib.hid how
          have HTW : Hid (∀ W, Below wr.heap.size wr W → Ints W (.slice A4 L.length c4) (rtT n l all L t)) := fun W hW => by
            have h_ := HTI.out.below hW
            rw [hTL] at h_
            show Reads _ _ _ _ _
            rw [hTL]; exact h_
          have HB := Lib.hid hB
          have hszo := hB.size
          have HN0' := Lib.hid (nxT_zero n l all L t)
          have HNA := Lib.hid (nxT_all n l all L t)
          have HNL := Lib.hid (fun i (h : i ≤ L.length) => nxT_len n l all L t h)
          obtain ⟨wo, hwo⟩ : ∃ wo, wo = wr := ⟨_, rfl⟩
          subst hwo
          clear hown hB hTL how
          go_wp2_with fail
          refine HOW.out.mono ?_
          rintro e w3 ⟨A6, c6, rfl, o6, b6⟩
          have HN3 : Hid (w3.ownsRow wo.heap.size 3 1 (.slice A6 L.length c6) L.length (cellsI (nxT n l all L t 0))) := by
            show World.ownsRow _ _ _ _ _ _ _
            rw [HN0'.out]; exact o6
          have HB3 := Lib.hid b6
          have HG3 : Hid (grB n l all L t 0 = false) := rfl
          clear o6 b6
          go_wp2_with fail
          go_loopg [9, 10] L.length (fun g gv iv wr => ∃ i : Nat, i + g = L.length ∧ gv = .bool (grB n l all L t i) ∧ iv = .int .i64 (i : Int) ∧ wr.ownsRow wo.heap.size 3 1 (.slice A6 L.length c6) L.length (cellsI (nxT n l all L t i)) ∧ Below wo.heap.size wo wr)
          case atStart => exact ⟨0, by omega, by rw [HG3.out], rfl, HN3.out, HB3.out⟩
          case round =>
            clear HN3 HB3 HG3
            obtain ⟨i, hig2, rfl, rfl, hown, hB1⟩ := hrel
            have HO := Lib.hid hown
            have HB1 := Lib.hid hB1
            have HBW := Lib.hid (btrans HB.out hB1)
            cases gk with
            | zero =>
              obtain rfl : i = L.length := by omega
              have hnl : ¬ ((L.length : Int) < ((rowN L).length : Int)) := by rw [HRL.out]; omega
              have HO1 := Lib.hid (own_base hown hszo)
              clear hown hB1
              cases hg : grB n l all L t L.length with
              | false =>
                have HE := Lib.hid (HEND.out t (grB_no hg))
                go_wp2_with fail
                go_ret
                refine ⟨A6, c6, by rw [HRVL.out]; rfl, ?_, HBW.out⟩
                rw [← HE.out, ← HNA.out, HNL.out _ (Nat.le_refl _)]
                exact HO1.out
              | true =>
                have HG1 := Lib.hid (hgo.out.next (grB_yes hg))
                clear hg
                go_wp2_with fail
                go_roundg g2
                case measure => omega
                case rel => exact ⟨t + 1, A6, c6, by omega, rfl, by go_num, HG1, by rw [← HNA.out]; exact HO1.out, HBW.out⟩
            | succ g3 =>
              have hlt : i < L.length := by omega
              have hlt' : (i : Int) < ((rowN L).length : Int) := by rw [HRL.out]; omega
              have hlt3 : (i : Int) < ((tblL n l all L).length : Int) := by rw [HTL.out]; omega
              have hlt2 : (i : Int) < (L.length : Int) := by omega
              obtain ⟨a, ha⟩ : ∃ a, L[i]? = some a := ⟨_, List.getElem?_eq_getElem hlt⟩
              have haL := List.mem_of_getElem? ha
              have ha8 := HB8.out a haL
              have hT1 := rtT_at (n := n) (l := l) (all := all) (t := t) ha
              have hneg := rt_neg (n := n) (l := l) (all := all) (t := t) haL
              obtain ⟨ua, gs, os, hua, hAs, cs, hus⟩ := (HT.out.below HBW.out).row (rowN_at ha)
              subst hAs
              obtain ⟨Aa, ca, rfl, -⟩ := hus.form
              obtain ⟨ub, gt, ot, hub, hAt, cb, uu, hut⟩ := (HVV.out.below HBW.out).row (HTA.out i a ha)
              subst hAt
              obtain ⟨Ab, cb_, rfl, -⟩ := hut.1
              obtain ⟨_, _, e1, hcc⟩ := (show Reads wr 1 (.slice A4 L.length c4) L.length (cellsI (rtT n l all L t)) from by have h_ := HTW.out wr hB1; unfold Ints at h_; rw [rtT_len] at h_; exact h_)
              cases e1
              obtain ⟨g1, o1, rfl, -, q1_⟩ := hcc (by omega)
              have q1 := q1_ i _ (cellsI_at hT1)
              have hGS := grB_succ (n := n) (l := l) (all := all) (t := t) ha
              have HTWr := Lib.hid (HTW.out)
              have HUS := Lib.hid hus
              have HUT := Lib.hid hut
              clear hcc q1_ hua hub
              by_cases hin : a ∈ usN n l all L t
              · rw [if_pos hin] at q1
                have HF := Lib.hid (fun (W : World) (hW : Below wr.heap.size wr W) => HFL.out a ha8 (rtT n l all L t) (rtT_len n l all L t) _ _ (.slice (some ⟨g1, o1, none⟩) L.length c4) uu W (HUS.out.below hW) (HUT.out.below hW) (HTWr.out W (btrans HB1.out hW)))
                rw [fal_hold] at HF
                rw [decide_eq_true hin] at hGS
                cases hh : holdB n l all (usN n l all L t) a with
                | true =>
                  rw [hh] at HF hGS
                  have HK := Lib.hid (nxT_keep (rt_stays ha hin hh) (by rw [hT1, if_pos hin]))
                  rw [Bool.not_true, Bool.and_false, Bool.or_false] at hGS
                  have HGS := Lib.hid hGS
                  have HOD := Lib.hid (fun (W : World) (hW : Below wr.heap.size wr W) => own_below HO.out hW)
                  clear hGS hneg hown hB1 hus hut hT1 hh hin
                  go_wp2_with fail
                  refine wp_region_held_drew (S := (fun w' : World => w'.cell? ⟨g1, o1 + i, none⟩ = some (.int .i64 (-1)) ∧ w'.cell? ⟨gs, os + i, none⟩ = some (.slice Aa (ndN a).length ca) ∧ w'.cell? ⟨gt, ot + i, none⟩ = some (.slice Ab (tbR l all L a n).length cb_))) (by kernel_rfl) (by (try dsimp only); simp [*]) (fun hHeld => ?_)
                  change wpAnyH _ _ _ _ _ _ #[false, false, false, false, false, false, false, false, false, false, false, false, false, false, false, false, false] _ _
                  refine wpAnyH_take (i := 0) (oi := ⟨some 31, _, _, _, _, _⟩) (v := ?_) rfl (by kernel_rfl) (by kernel_rfl) (by kernel_rfl) (fun _ _ _ h => h) (Or.inl ⟨by rfl, ?_⟩) (by assumption) ?_
                  rotate_left
                  · (intro w hSw; (try dsimp only at hSw); go_simp; (try (with_reducible rfl)))
                  try simp only [Act.put, List.setIfInBounds_toArray, List.set_cons_zero, List.set_cons_succ]
                  refine wpAnyH_take (i := 1) (oi := ⟨some 32, _, _, _, _, _⟩) (v := ?_) rfl (by kernel_rfl) (by kernel_rfl) (by kernel_rfl) (fun _ _ _ h => h) (Or.inl ⟨by rfl, ?_⟩) (by assumption) ?_
                  rotate_left
                  · (intro w hSw; (try dsimp only at hSw); go_simp; (try (with_reducible rfl)))
                  try simp only [Act.put, List.setIfInBounds_toArray, List.set_cons_zero, List.set_cons_succ]
                  refine wpAnyH_take (i := 2) (oi := ⟨some 33, _, _, _, _, _⟩) (v := ?_) rfl (by kernel_rfl) (by kernel_rfl) (by kernel_rfl) (fun _ _ _ h => h) (Or.inl ⟨by rfl, ?_⟩) (by assumption) ?_
                  rotate_left
                  · (intro w hSw; (try dsimp only at hSw); go_simp; (try (with_reducible rfl)))
                  try simp only [Act.put, List.setIfInBounds_toArray, List.set_cons_zero, List.set_cons_succ]
                  refine wpAnyH_take (i := 3) (oi := ⟨some 34, _, _, _, _, _⟩) (v := ?_) rfl (by kernel_rfl) (by kernel_rfl) (by kernel_rfl) (fun _ _ _ h => h) (Or.inl ⟨by rfl, ?_⟩) (by assumption) ?_
                  rotate_left
                  · (intro w hSw; (try dsimp only at hSw); go_simp; (try (with_reducible rfl)))
                  try simp only [Act.put, List.setIfInBounds_toArray, List.set_cons_zero, List.set_cons_succ]
                  refine wpAnyH_take (i := 4) (oi := ⟨some 35, _, _, _, _, _⟩) (v := ?_) rfl (by kernel_rfl) (by kernel_rfl) (by kernel_rfl) (fun _ _ _ h => h) (Or.inl ⟨by rfl, ?_⟩) (by assumption) ?_
                  rotate_left
                  · (intro w hSw; (try dsimp only at hSw); go_simp; (try (with_reducible rfl)))
                  try simp only [Act.put, List.setIfInBounds_toArray, List.set_cons_zero, List.set_cons_succ]
                  refine wpAnyH_take (i := 5) (oi := ⟨some 36, _, _, _, _, _⟩) (v := ?_) rfl (by kernel_rfl) (by kernel_rfl) (by kernel_rfl) (fun _ _ _ h => h) (Or.inl ⟨by rfl, ?_⟩) (by assumption) ?_
                  rotate_left
                  · (intro w hSw; (try dsimp only at hSw); go_simp; (try (with_reducible rfl)))
                  try simp only [Act.put, List.setIfInBounds_toArray, List.set_cons_zero, List.set_cons_succ]
                  refine wpAnyH_take (i := 6) (oi := ⟨some 37, _, _, _, _, _⟩) (v := ?_) rfl (by kernel_rfl) (by kernel_rfl) (by kernel_rfl) (fun _ _ _ h => h) (Or.inl ⟨by rfl, ?_⟩) (by assumption) ?_
                  rotate_left
                  · (intro w hSw; (try dsimp only at hSw); go_simp; (try (with_reducible rfl)))
                  try simp only [Act.put, List.setIfInBounds_toArray, List.set_cons_zero, List.set_cons_succ]
                  refine wpAnyH_take (i := 7) (oi := ⟨some 38, _, _, _, _, _⟩) (v := ?_) rfl (by kernel_rfl) (by kernel_rfl) (by kernel_rfl) (fun _ _ _ h => h) (Or.inl ⟨by rfl, ?_⟩) (by assumption) ?_
                  rotate_left
                  · (intro w hSw; (try dsimp only at hSw); go_simp; (try (with_reducible rfl)))
                  try simp only [Act.put, List.setIfInBounds_toArray, List.set_cons_zero, List.set_cons_succ]
                  refine wpAnyH_take (i := 8) (oi := ⟨some 39, _, _, _, _, _⟩) (v := ?_) rfl (by kernel_rfl) (by kernel_rfl) (by kernel_rfl) (fun _ _ _ h => h) (Or.inl ⟨by rfl, ?_⟩) (by assumption) ?_
                  rotate_left
                  · (intro w hSw; (try dsimp only at hSw); go_simp; (try (with_reducible rfl)))
                  try simp only [Act.put, List.setIfInBounds_toArray, List.set_cons_zero, List.set_cons_succ]
                  refine wpAnyH_take (i := 9) (oi := ⟨some 40, _, _, _, _, _⟩) (v := ?_) rfl (by kernel_rfl) (by kernel_rfl) (by kernel_rfl) (fun _ _ _ h => h) (Or.inl ⟨by rfl, ?_⟩) (by assumption) ?_
                  rotate_left
                  · (intro w hSw; (try dsimp only at hSw); go_simp; (try (with_reducible rfl)))
                  try simp only [Act.put, List.setIfInBounds_toArray, List.set_cons_zero, List.set_cons_succ]
                  refine wpAnyH_take (i := 10) (oi := ⟨some 41, _, _, _, _, _⟩) (v := ?_) rfl (by kernel_rfl) (by kernel_rfl) (by kernel_rfl) (fun _ _ _ h => h) (Or.inl ⟨by rfl, ?_⟩) (by assumption) ?_
                  rotate_left
                  · (intro w hSw; (try dsimp only at hSw); go_simp; (try (with_reducible rfl)))
                  try simp only [Act.put, List.setIfInBounds_toArray, List.set_cons_zero, List.set_cons_succ]
                  refine wpAnyH_take (i := 11) (oi := ⟨some 42, _, _, _, _, _⟩) (v := ?_) rfl (by kernel_rfl) (by kernel_rfl) (by kernel_rfl) (fun _ _ _ h => h) (Or.inl ⟨by rfl, ?_⟩) (by assumption) ?_
                  rotate_left
                  · (intro w hSw; (try dsimp only at hSw); go_simp; (try (with_reducible rfl)))
                  try simp only [Act.put, List.setIfInBounds_toArray, List.set_cons_zero, List.set_cons_succ]
                  refine wpAnyH_take (i := 12) (oi := ⟨some 43, _, _, _, _, _⟩) (v := ?_) rfl (by kernel_rfl) (by kernel_rfl) (by kernel_rfl) (fun _ _ _ h => h) (Or.inl ⟨by rfl, ?_⟩) (by assumption) ?_
                  rotate_left
                  · (intro w hSw; (try dsimp only at hSw); go_simp; (try (with_reducible rfl)))
                  try simp only [Act.put, List.setIfInBounds_toArray, List.set_cons_zero, List.set_cons_succ]
                  refine wpAnyH_take (i := 13) (oi := ⟨some 44, _, _, _, _, _⟩) (v := ?_) rfl (by kernel_rfl) (by kernel_rfl) (by kernel_rfl) (fun _ _ _ h => h) (Or.inl ⟨by rfl, ?_⟩) (by assumption) ?_
                  rotate_left
                  · (intro w hSw; (try dsimp only at hSw); go_simp; (try (with_reducible rfl)))
                  try simp only [Act.put, List.setIfInBounds_toArray, List.set_cons_zero, List.set_cons_succ]
                  refine wpAnyH_take (i := 14) (oi := ⟨some 45, _, _, _, _, _⟩) (v := ?_) rfl (by kernel_rfl) (by kernel_rfl) (by kernel_rfl) (fun _ _ _ h => h) (Or.inl ⟨by rfl, ?_⟩) (by assumption) ?_
                  rotate_left
                  · (intro w hSw; (try dsimp only at hSw); go_simp; (try (with_reducible rfl)))
                  try simp only [Act.put, List.setIfInBounds_toArray, List.set_cons_zero, List.set_cons_succ]
                  refine wpAnyH_ready (rs := [15]) (by kernel_rfl) (by simp) ?_
                  refine AllReadyH.cons (o := ⟨some 46, _, _, _, _, _⟩) rfl (fun K hK => ?_) AllReadyH.nil
                  go_simp
                  (with_reducible refine (HF.out wr.drew (Below.refl _ _).drew).mono ?_); rintro e w5 ⟨rfl, b5⟩; have d5 : Below wr.heap.size wr w5 := btrans (Below.refl _ _).drew b5; have k0 := nearv.cell_keep q1 d5; have k1 := nearv.cell_keep cs d5; have k2 := nearv.cell_keep cb d5
                  go_wp2_with fail
                  refine hK.out _ _ (by (try dsimp only); simp [*]) (fun hHeld => ?_)
                  clear hK K
                  try simp only [List.setIfInBounds_toArray, List.set_cons_zero, List.set_cons_succ]
                  refine wpAnyH_take (i := 16) (oi := ⟨some 47, _, _, _, _, _⟩) (v := ?_) rfl (by kernel_rfl) (by kernel_rfl) (by kernel_rfl) (fun _ _ _ h => h) (Or.inl ⟨by rfl, ?_⟩) (by assumption) ?_
                  rotate_left
                  · (intro w hSw; (try dsimp only at hSw); go_simp; (try (with_reducible rfl)))
                  try simp only [Act.put, List.setIfInBounds_toArray, List.set_cons_zero, List.set_cons_succ]
                  refine wpAnyH_done (by kernel_rfl) ?_ _
                  have HO5 := Lib.hid (HOD.out w5 d5)
                  have HB5 := Lib.hid (btrans HB1.out d5)
                  clear b5 d5 k0 k1 k2 q1 cs cb hHeld
                  go_wp2_with fail
                  go_roundg g3
                  case measure => omega
                  case rel => exact ⟨i + 1, by omega, by rw [HGS.out], by go_num, by rw [← HK.out]; exact HO5.out, HB5.out⟩
                | false =>
                  rw [hh] at HF hGS
                  have HK := Lib.hid (nxT_set (rt_falls ha hin hh))
                  have HNI := Lib.hid (HNL.out i (by omega))
                  obtain ⟨x0, hx0⟩ : ∃ x, (nxT n l all L t i)[i]? = some x := ⟨_, List.getElem?_eq_getElem (by rw [HNI.out]; exact hlt)⟩
                  obtain ⟨g6, hA6, -⟩ := own_at (i := i) hown (cellsI_at hx0)
                  subst hA6
                  rw [Bool.not_false, Bool.and_true, Bool.or_true] at hGS
                  have HGS := Lib.hid hGS
                  have HOD := Lib.hid (fun (W : World) (hW : Below wr.heap.size wr W) => own_below HO.out hW)
                  clear hGS hneg hown hB1 hus hut hT1 hh hin
                  go_wp2_with fail
                  refine wp_region_held_drew (S := (fun w' : World => w'.cell? ⟨g1, o1 + i, none⟩ = some (.int .i64 (-1)) ∧ w'.cell? ⟨gs, os + i, none⟩ = some (.slice Aa (ndN a).length ca) ∧ w'.cell? ⟨gt, ot + i, none⟩ = some (.slice Ab (tbR l all L a n).length cb_))) (by kernel_rfl) (by (try dsimp only); simp [*]) (fun hHeld => ?_)
                  change wpAnyH _ _ _ _ _ _ #[false, false, false, false, false, false, false, false, false, false, false, false, false, false, false, false, false] _ _
                  refine wpAnyH_take (i := 0) (oi := ⟨some 31, _, _, _, _, _⟩) (v := ?_) rfl (by kernel_rfl) (by kernel_rfl) (by kernel_rfl) (fun _ _ _ h => h) (Or.inl ⟨by rfl, ?_⟩) (by assumption) ?_
                  rotate_left
                  · (intro w hSw; (try dsimp only at hSw); go_simp; (try (with_reducible rfl)))
                  try simp only [Act.put, List.setIfInBounds_toArray, List.set_cons_zero, List.set_cons_succ]
                  refine wpAnyH_take (i := 1) (oi := ⟨some 32, _, _, _, _, _⟩) (v := ?_) rfl (by kernel_rfl) (by kernel_rfl) (by kernel_rfl) (fun _ _ _ h => h) (Or.inl ⟨by rfl, ?_⟩) (by assumption) ?_
                  rotate_left
                  · (intro w hSw; (try dsimp only at hSw); go_simp; (try (with_reducible rfl)))
                  try simp only [Act.put, List.setIfInBounds_toArray, List.set_cons_zero, List.set_cons_succ]
                  refine wpAnyH_take (i := 2) (oi := ⟨some 33, _, _, _, _, _⟩) (v := ?_) rfl (by kernel_rfl) (by kernel_rfl) (by kernel_rfl) (fun _ _ _ h => h) (Or.inl ⟨by rfl, ?_⟩) (by assumption) ?_
                  rotate_left
                  · (intro w hSw; (try dsimp only at hSw); go_simp; (try (with_reducible rfl)))
                  try simp only [Act.put, List.setIfInBounds_toArray, List.set_cons_zero, List.set_cons_succ]
                  refine wpAnyH_take (i := 3) (oi := ⟨some 34, _, _, _, _, _⟩) (v := ?_) rfl (by kernel_rfl) (by kernel_rfl) (by kernel_rfl) (fun _ _ _ h => h) (Or.inl ⟨by rfl, ?_⟩) (by assumption) ?_
                  rotate_left
                  · (intro w hSw; (try dsimp only at hSw); go_simp; (try (with_reducible rfl)))
                  try simp only [Act.put, List.setIfInBounds_toArray, List.set_cons_zero, List.set_cons_succ]
                  refine wpAnyH_take (i := 4) (oi := ⟨some 35, _, _, _, _, _⟩) (v := ?_) rfl (by kernel_rfl) (by kernel_rfl) (by kernel_rfl) (fun _ _ _ h => h) (Or.inl ⟨by rfl, ?_⟩) (by assumption) ?_
                  rotate_left
                  · (intro w hSw; (try dsimp only at hSw); go_simp; (try (with_reducible rfl)))
                  try simp only [Act.put, List.setIfInBounds_toArray, List.set_cons_zero, List.set_cons_succ]
                  refine wpAnyH_take (i := 5) (oi := ⟨some 36, _, _, _, _, _⟩) (v := ?_) rfl (by kernel_rfl) (by kernel_rfl) (by kernel_rfl) (fun _ _ _ h => h) (Or.inl ⟨by rfl, ?_⟩) (by assumption) ?_
                  rotate_left
                  · (intro w hSw; (try dsimp only at hSw); go_simp; (try (with_reducible rfl)))
                  try simp only [Act.put, List.setIfInBounds_toArray, List.set_cons_zero, List.set_cons_succ]
                  refine wpAnyH_take (i := 6) (oi := ⟨some 37, _, _, _, _, _⟩) (v := ?_) rfl (by kernel_rfl) (by kernel_rfl) (by kernel_rfl) (fun _ _ _ h => h) (Or.inl ⟨by rfl, ?_⟩) (by assumption) ?_
                  rotate_left
                  · (intro w hSw; (try dsimp only at hSw); go_simp; (try (with_reducible rfl)))
                  try simp only [Act.put, List.setIfInBounds_toArray, List.set_cons_zero, List.set_cons_succ]
                  refine wpAnyH_take (i := 7) (oi := ⟨some 38, _, _, _, _, _⟩) (v := ?_) rfl (by kernel_rfl) (by kernel_rfl) (by kernel_rfl) (fun _ _ _ h => h) (Or.inl ⟨by rfl, ?_⟩) (by assumption) ?_
                  rotate_left
                  · (intro w hSw; (try dsimp only at hSw); go_simp; (try (with_reducible rfl)))
                  try simp only [Act.put, List.setIfInBounds_toArray, List.set_cons_zero, List.set_cons_succ]
                  refine wpAnyH_take (i := 8) (oi := ⟨some 39, _, _, _, _, _⟩) (v := ?_) rfl (by kernel_rfl) (by kernel_rfl) (by kernel_rfl) (fun _ _ _ h => h) (Or.inl ⟨by rfl, ?_⟩) (by assumption) ?_
                  rotate_left
                  · (intro w hSw; (try dsimp only at hSw); go_simp; (try (with_reducible rfl)))
                  try simp only [Act.put, List.setIfInBounds_toArray, List.set_cons_zero, List.set_cons_succ]
                  refine wpAnyH_take (i := 9) (oi := ⟨some 40, _, _, _, _, _⟩) (v := ?_) rfl (by kernel_rfl) (by kernel_rfl) (by kernel_rfl) (fun _ _ _ h => h) (Or.inl ⟨by rfl, ?_⟩) (by assumption) ?_
                  rotate_left
                  · (intro w hSw; (try dsimp only at hSw); go_simp; (try (with_reducible rfl)))
                  try simp only [Act.put, List.setIfInBounds_toArray, List.set_cons_zero, List.set_cons_succ]
                  refine wpAnyH_take (i := 10) (oi := ⟨some 41, _, _, _, _, _⟩) (v := ?_) rfl (by kernel_rfl) (by kernel_rfl) (by kernel_rfl) (fun _ _ _ h => h) (Or.inl ⟨by rfl, ?_⟩) (by assumption) ?_
                  rotate_left
                  · (intro w hSw; (try dsimp only at hSw); go_simp; (try (with_reducible rfl)))
                  try simp only [Act.put, List.setIfInBounds_toArray, List.set_cons_zero, List.set_cons_succ]
                  refine wpAnyH_take (i := 11) (oi := ⟨some 42, _, _, _, _, _⟩) (v := ?_) rfl (by kernel_rfl) (by kernel_rfl) (by kernel_rfl) (fun _ _ _ h => h) (Or.inl ⟨by rfl, ?_⟩) (by assumption) ?_
                  rotate_left
                  · (intro w hSw; (try dsimp only at hSw); go_simp; (try (with_reducible rfl)))
                  try simp only [Act.put, List.setIfInBounds_toArray, List.set_cons_zero, List.set_cons_succ]
                  refine wpAnyH_take (i := 12) (oi := ⟨some 43, _, _, _, _, _⟩) (v := ?_) rfl (by kernel_rfl) (by kernel_rfl) (by kernel_rfl) (fun _ _ _ h => h) (Or.inl ⟨by rfl, ?_⟩) (by assumption) ?_
                  rotate_left
                  · (intro w hSw; (try dsimp only at hSw); go_simp; (try (with_reducible rfl)))
                  try simp only [Act.put, List.setIfInBounds_toArray, List.set_cons_zero, List.set_cons_succ]
                  refine wpAnyH_take (i := 13) (oi := ⟨some 44, _, _, _, _, _⟩) (v := ?_) rfl (by kernel_rfl) (by kernel_rfl) (by kernel_rfl) (fun _ _ _ h => h) (Or.inl ⟨by rfl, ?_⟩) (by assumption) ?_
                  rotate_left
                  · (intro w hSw; (try dsimp only at hSw); go_simp; (try (with_reducible rfl)))
                  try simp only [Act.put, List.setIfInBounds_toArray, List.set_cons_zero, List.set_cons_succ]
                  refine wpAnyH_take (i := 14) (oi := ⟨some 45, _, _, _, _, _⟩) (v := ?_) rfl (by kernel_rfl) (by kernel_rfl) (by kernel_rfl) (fun _ _ _ h => h) (Or.inl ⟨by rfl, ?_⟩) (by assumption) ?_
                  rotate_left
                  · (intro w hSw; (try dsimp only at hSw); go_simp; (try (with_reducible rfl)))
                  try simp only [Act.put, List.setIfInBounds_toArray, List.set_cons_zero, List.set_cons_succ]
                  refine wpAnyH_ready (rs := [15]) (by kernel_rfl) (by simp) ?_
                  refine AllReadyH.cons (o := ⟨some 46, _, _, _, _, _⟩) rfl (fun K hK => ?_) AllReadyH.nil
                  go_simp
                  (with_reducible refine (HF.out wr.drew (Below.refl _ _).drew).mono ?_); rintro e w5 ⟨rfl, b5⟩; have d5 : Below wr.heap.size wr w5 := btrans (Below.refl _ _).drew b5; have k0 := nearv.cell_keep q1 d5; have k1 := nearv.cell_keep cs d5; have k2 := nearv.cell_keep cb d5
                  go_wp2_with fail
                  refine hK.out _ _ (by (try dsimp only); simp [*]) (fun hHeld => ?_)
                  clear hK K
                  try simp only [List.setIfInBounds_toArray, List.set_cons_zero, List.set_cons_succ]
                  refine wpAnyH_take (i := 16) (oi := ⟨some 47, _, _, _, _, _⟩) (v := ?_) rfl (by kernel_rfl) (by kernel_rfl) (by kernel_rfl) (fun _ _ _ h => h) (Or.inl ⟨by rfl, ?_⟩) (by assumption) ?_
                  rotate_left
                  · (intro w hSw; (try dsimp only at hSw); go_simp; (try (with_reducible rfl)))
                  try simp only [Act.put, List.setIfInBounds_toArray, List.set_cons_zero, List.set_cons_succ]
                  refine wpAnyH_done (by kernel_rfl) ?_ _
                  have HO5 := Lib.hid (HOD.out w5 d5)
                  have HB5 := Lib.hid (btrans HB1.out d5)
                  clear b5 d5 k0 k1 k2 q1 cs cb hHeld
                  have hO5 := HO5.out
                  have f0 := hO5.cellAt i (by rw [Nat.mul_one]; exact hlt)
                  rw [cellsI_at hx0] at f0
                  have z0 := hO5.frozenAt i
                  have HST := Lib.hid (HO5.out.stored i (.int .i64 (t : Int))).1
                  clear hx0
                  go_wp2_with fail
                  go_roundg g3
                  case measure => omega
                  case rel =>
                    have h_ := HST.out
                    rw [cellsI_setR, HK.out] at h_
                    exact ⟨i + 1, by omega, by rw [HGS.out], by go_num, h_, HB5.out.setCell (by have := (HO5.out.lt g6 rfl).1; simp; omega) _⟩
              · rw [if_neg hin] at q1 hneg
                rw [decide_eq_false hin] at hGS hneg
                have HK := Lib.hid (nxT_keep (rt_fixed ha hin) (by rw [hT1, if_neg hin]))
                have hnn : decide (resV n l all L a < 0) = false := hneg
                rw [Bool.false_and, Bool.or_false] at hGS
                have HGS := Lib.hid hGS
                clear hGS hneg hown hB1 hus hut hT1
                generalize resV n l all L a = rv at *
                go_wp2_with fail
                refine wp_region_held_drew (S := (fun w' : World => w'.cell? ⟨g1, o1 + i, none⟩ = some (.int .i64 rv))) (by kernel_rfl) (by (try dsimp only); simp [*]) (fun hHeld => ?_)
                change wpAnyH _ _ _ _ _ _ #[false, false, false, false, false, false, false, false, false, false, false, false, false, false, false, false, false] _ _
                refine wpAnyH_take (i := 0) (oi := ⟨some 31, _, _, _, _, _⟩) (v := ?_) rfl (by kernel_rfl) (by kernel_rfl) (by kernel_rfl) (fun _ _ _ h => h) (Or.inl ⟨by rfl, ?_⟩) (by assumption) ?_
                rotate_left
                · (intro w hSw; (try dsimp only at hSw); go_simp; (try (with_reducible rfl)))
                try simp only [Act.put, List.setIfInBounds_toArray, List.set_cons_zero, List.set_cons_succ]
                refine wpAnyH_take (i := 1) (oi := ⟨some 32, _, _, _, _, _⟩) (v := ?_) rfl (by kernel_rfl) (by kernel_rfl) (by kernel_rfl) (fun _ _ _ h => h) (Or.inl ⟨by rfl, ?_⟩) (by assumption) ?_
                rotate_left
                · (intro w hSw; (try dsimp only at hSw); go_simp; (try (with_reducible rfl)))
                try simp only [Act.put, List.setIfInBounds_toArray, List.set_cons_zero, List.set_cons_succ]
                refine wpAnyH_take (i := 2) (oi := ⟨some 33, _, _, _, _, _⟩) (v := ?_) rfl (by kernel_rfl) (by kernel_rfl) (by kernel_rfl) (fun _ _ _ h => h) (Or.inl ⟨by rfl, ?_⟩) (by assumption) ?_
                rotate_left
                · (intro w hSw; (try dsimp only at hSw); go_simp; (try (with_reducible rfl)))
                try simp only [Act.put, List.setIfInBounds_toArray, List.set_cons_zero, List.set_cons_succ]
                refine wpAnyH_take (i := 3) (oi := ⟨some 34, _, _, _, _, _⟩) (v := ?_) rfl (by kernel_rfl) (by kernel_rfl) (by kernel_rfl) (fun _ _ _ h => h) (Or.inl ⟨by rfl, ?_⟩) (by assumption) ?_
                rotate_left
                · (intro w hSw; (try dsimp only at hSw); go_simp; (try (with_reducible rfl)))
                try simp only [Act.put, List.setIfInBounds_toArray, List.set_cons_zero, List.set_cons_succ]
                refine wpAnyH_take (i := 4) (oi := ⟨some 35, _, _, _, _, _⟩) (v := ?_) rfl (by kernel_rfl) (by kernel_rfl) (by kernel_rfl) (fun _ _ _ h => h) (Or.inl ⟨by rfl, ?_⟩) (by assumption) ?_
                rotate_left
                · (intro w hSw; (try dsimp only at hSw); go_simp; (try (with_reducible rfl)))
                try simp only [Act.put, List.setIfInBounds_toArray, List.set_cons_zero, List.set_cons_succ]
                refine wpAnyH_take (i := 5) (oi := ⟨some 36, _, _, _, _, _⟩) (v := ?_) rfl (by kernel_rfl) (by kernel_rfl) (by kernel_rfl) (fun _ _ _ h => h) (Or.inl ⟨by rfl, ?_⟩) (by assumption) ?_
                rotate_left
                · (intro w hSw; (try dsimp only at hSw); go_simp; (try (with_reducible rfl)))
                try simp only [Act.put, List.setIfInBounds_toArray, List.set_cons_zero, List.set_cons_succ]
                refine wpAnyH_take (i := 6) (oi := ⟨some 37, _, _, _, _, _⟩) (v := undef) rfl (by kernel_rfl) (by kernel_rfl) (by kernel_rfl) (fun _ _ _ h => h) (Or.inr ⟨by rfl, rfl⟩) (by assumption) ?_
                try simp only [Act.put, List.setIfInBounds_toArray, List.set_cons_zero, List.set_cons_succ]
                refine wpAnyH_take (i := 7) (oi := ⟨some 38, _, _, _, _, _⟩) (v := undef) rfl (by kernel_rfl) (by kernel_rfl) (by kernel_rfl) (fun _ _ _ h => h) (Or.inr ⟨by rfl, rfl⟩) (by assumption) ?_
                try simp only [Act.put, List.setIfInBounds_toArray, List.set_cons_zero, List.set_cons_succ]
                refine wpAnyH_take (i := 8) (oi := ⟨some 39, _, _, _, _, _⟩) (v := undef) rfl (by kernel_rfl) (by kernel_rfl) (by kernel_rfl) (fun _ _ _ h => h) (Or.inr ⟨by rfl, rfl⟩) (by assumption) ?_
                try simp only [Act.put, List.setIfInBounds_toArray, List.set_cons_zero, List.set_cons_succ]
                refine wpAnyH_take (i := 9) (oi := ⟨some 40, _, _, _, _, _⟩) (v := undef) rfl (by kernel_rfl) (by kernel_rfl) (by kernel_rfl) (fun _ _ _ h => h) (Or.inr ⟨by rfl, rfl⟩) (by assumption) ?_
                try simp only [Act.put, List.setIfInBounds_toArray, List.set_cons_zero, List.set_cons_succ]
                refine wpAnyH_take (i := 10) (oi := ⟨some 41, _, _, _, _, _⟩) (v := undef) rfl (by kernel_rfl) (by kernel_rfl) (by kernel_rfl) (fun _ _ _ h => h) (Or.inr ⟨by rfl, rfl⟩) (by assumption) ?_
                try simp only [Act.put, List.setIfInBounds_toArray, List.set_cons_zero, List.set_cons_succ]
                refine wpAnyH_take (i := 11) (oi := ⟨some 42, _, _, _, _, _⟩) (v := undef) rfl (by kernel_rfl) (by kernel_rfl) (by kernel_rfl) (fun _ _ _ h => h) (Or.inr ⟨by rfl, rfl⟩) (by assumption) ?_
                try simp only [Act.put, List.setIfInBounds_toArray, List.set_cons_zero, List.set_cons_succ]
                refine wpAnyH_take (i := 12) (oi := ⟨some 43, _, _, _, _, _⟩) (v := undef) rfl (by kernel_rfl) (by kernel_rfl) (by kernel_rfl) (fun _ _ _ h => h) (Or.inr ⟨by rfl, rfl⟩) (by assumption) ?_
                try simp only [Act.put, List.setIfInBounds_toArray, List.set_cons_zero, List.set_cons_succ]
                refine wpAnyH_take (i := 13) (oi := ⟨some 44, _, _, _, _, _⟩) (v := undef) rfl (by kernel_rfl) (by kernel_rfl) (by kernel_rfl) (fun _ _ _ h => h) (Or.inr ⟨by rfl, rfl⟩) (by assumption) ?_
                try simp only [Act.put, List.setIfInBounds_toArray, List.set_cons_zero, List.set_cons_succ]
                refine wpAnyH_take (i := 14) (oi := ⟨some 45, _, _, _, _, _⟩) (v := undef) rfl (by kernel_rfl) (by kernel_rfl) (by kernel_rfl) (fun _ _ _ h => h) (Or.inr ⟨by rfl, rfl⟩) (by assumption) ?_
                try simp only [Act.put, List.setIfInBounds_toArray, List.set_cons_zero, List.set_cons_succ]
                refine wpAnyH_take (i := 15) (oi := ⟨some 46, _, _, _, _, _⟩) (v := undef) rfl (by kernel_rfl) (by kernel_rfl) (by kernel_rfl) (fun _ _ _ h => h) (Or.inr ⟨by rfl, rfl⟩) (by assumption) ?_
                try simp only [Act.put, List.setIfInBounds_toArray, List.set_cons_zero, List.set_cons_succ]
                refine wpAnyH_take (i := 16) (oi := ⟨some 47, _, _, _, _, _⟩) (v := ?_) rfl (by kernel_rfl) (by kernel_rfl) (by kernel_rfl) (fun _ _ _ h => h) (Or.inl ⟨by rfl, ?_⟩) (by assumption) ?_
                rotate_left
                · (intro w hSw; (try dsimp only at hSw); go_simp; (try (with_reducible rfl)))
                try simp only [Act.put, List.setIfInBounds_toArray, List.set_cons_zero, List.set_cons_succ]
                refine wpAnyH_done (by kernel_rfl) ?_ _
                go_wp2_with fail
                go_roundg g3
                case measure => omega
                case rel => exact ⟨i + 1, by omega, by rw [HGS.out], by go_num, by rw [← HK.out]; exact HO.out.drew, HB1.out.drew⟩
end Go.Proofs.YthpodbhiopnnbaaDoor.ups

/- The contract of slices.ContainsFunc over words. -/
namespace Go.Proofs.YthpodbhiopnnbaaDoor.ups
open Go.RowKit P2 words edges ints good adjs fns sets rets covs bitsI func
set_option linter.unusedVariables false

theorem containsUU_any (u : Value) (xs : List Nat) (f : FuncId) (caps : Array Value) (p : Nat → Bool) (w : World) (hu : Nums w u xs) (hxl : xs.length ≤ 1048576) (h : FnU w f caps xs p) :
    Calls Tryd.prog 68 #[u, .func (.func f) #[] caps] w fun e w' => e = .returned (.bool (xs.any p)) ∧ Below w.heap.size w w' := by
  have HI := Lib.hid (indexFuncU_any u xs f caps p w hu hxl h)
  have HD := Lib.hid (idxF_any p xs)
  obtain ⟨A2, c2, rfl, -⟩ := hu.form
  clear hu h
  go_enter Tryd.func68, Tryd.ntmps68
  go_wp2_with fail
  refine HI.out.mono ?_
  rintro e w1 ⟨rfl, b1⟩
  go_wp2_with fail
  go_ret
  exact ⟨ret_bool HD.out, b1⟩
end Go.Proofs.YthpodbhiopnnbaaDoor.ups

/- Guards: the contract of the program's holds. -/
namespace Go.Proofs.YthpodbhiopnnbaaDoor.ups
open Go.RowKit P2 words edges ints good adjs fns sets rets covs bags bitsI func lists least
set_option linter.unusedVariables false

set_option maxHeartbeats 2000000 in
set_option maxRecDepth 100000 in
theorem holdsClo_any (n a b x : Nat) (b1 b2 b3 : Nat) (all : Bool) (vc vs : Value) (l : List Ed) (w : World) (h1 : Blk w b1 74 #[vc, .func (.func (ruleF all)) #[] #[], vs]) (h2 : w.cell? ⟨b2, 0, none⟩ = some (.int .u64 (a : Int))) (h3 : w.cell? ⟨b3, 0, none⟩ = some (.int .i64 (x : Int))) (hE : Env w) (hc : Nums w vc (clos l n)) (hg : P2.Good (n : Int) l) (hn : n ≤ 8) (ha : a < 2 ^ n) (hb : b < 2 ^ n) (hx : x ≤ 8) :
    Calls Tryd.prog 99 #[.int .u64 (b : Int), .pointer (some ⟨b1, 0, none⟩), .pointer (some ⟨b2, 0, none⟩), .pointer (some ⟨b3, 0, none⟩)] w fun e w' => e = .returned (.bool (ansB l all x a b)) ∧ Below w.heap.size w w' := by
  obtain ⟨p0, p1, p2⟩ := blkW h1
  have HI := Lib.hid (isAnswer_any n a b x all vc vs l w hE hc hg hn ha hb hx)
  unfold watV at HI
  clear hE hc hg h1
  go_enter Tryd.func99, Tryd.ntmps99
  go_wp2_with fail
  refine HI.out.mono ?_
  rintro e w1 ⟨rfl, b1⟩
  go_wp2_with fail
  go_ret
  exact ⟨rfl, b1⟩
set_option maxHeartbeats 8000000 in
set_option maxRecDepth 100000 in
theorem holds_any (n a : Nat) (all : Bool) (vc vs : Value) (L : List Nat) (l : List Ed) (w : World) (hE : Env w) (hc : Nums w vc (clos l n)) (hs : Nums w vs L) (hL : ∀ c ∈ L, c < 2 ^ n) (hLl : L.length ≤ 1048576) (hg : P2.Good (n : Int) l) (hn : n ≤ 8) (ha : a < 2 ^ n) :
    Calls Tryd.prog 70 #[watV all vc vs, .int .u64 (a : Int)] w fun e w' => e = .returned (.bool (holdB n l all L a)) ∧ Below w.heap.size w w' := by
  have hmf : ∀ (fn : Fn) (first cap : Array Value) (w : World), (Instr.makeFunc fn first cap).run Tryd.prog w = .ok (.func fn first cap) w := fun _ _ _ _ => rfl
  obtain ⟨A3, c3, rfl, -⟩ := hc.form
  have hlen := clos_len l n
  obtain ⟨W0, hW0⟩ : ∃ W0, W0 = (w.alloc (.cells #[.slice A3 n c3, .func (.func (ruleF all)) #[] #[], vs] 74)).alloc (.cells #[.int .u64 (a : Int)] 64) := ⟨_, rfl⟩
  have b0 : Below w.heap.size w W0 := by rw [hW0]; exact ((Below.refl _ _).alloc (Nat.le_refl _) _).alloc (by simp) _
  have g1 : Blk W0 w.heap.size 74 #[.slice A3 n c3, .func (.func (ruleF all)) #[] #[], vs] := by rw [hW0]; exact (Blk.new w 74 #[.slice A3 n c3, .func (.func (ruleF all)) #[] #[], vs]).alloc _
  have g2 : Blk W0 (w.heap.size + 1) 64 #[.int .u64 (a : Int)] := by
    have h_ := Blk.new (w.alloc (.cells #[.slice A3 n c3, .func (.func (ruleF all)) #[] #[], vs] 74)) 64 #[.int .u64 (a : Int)]
    rw [World.size_alloc] at h_
    rw [hW0]; exact h_
  have HC : Hid (∀ W, Below w.heap.size w W → Nums W (.slice A3 n c3) (clos l n)) := fun W hW => by
    have h_ := hc.below hW
    unfold Nums at h_ ⊢
    rw [hlen] at h_ ⊢
    exact h_
  have HS := Lib.hid hs
  have HEN := Lib.hid hE
  have HLM := Lib.hid hL
  have HGD := Lib.hid hg
  have HB0 := Lib.hid b0
  have HG1 := Lib.hid g1
  have HG2 := Lib.hid g2
  have HW0 := Lib.hid hW0
  have HK0 : Hid ((List.range 0).all (fun x => a.testBit x || L.any (ansB l all x a)) = true) := rfl
  have HV : Hid (holdB n l all L a = (List.range n).all (fun x => a.testBit x || L.any (ansB l all x a))) := rfl
  have hsuc : ∀ k, (List.range (k + 1)).all (fun x => a.testBit x || L.any (ansB l all x a)) = ((List.range k).all (fun x => a.testBit x || L.any (ansB l all x a)) && (a.testBit k || L.any (ansB l all k a))) := fun k => by
    rw [List.range_succ, List.all_append]; simp
  have HSU := Lib.hid hsuc
  have HNO : Hid (∀ k, k < n → (a.testBit k || L.any (ansB l all k a)) = false → holdB n l all L a = false) := fun k hk h => by
    show (List.range n).all _ = false
    rw [List.all_eq_false]
    exact ⟨k, List.mem_range.2 hk, by rw [h]; decide⟩
  have ha8 := Nat.lt_of_lt_of_le ha (pow_le hn)
  obtain ⟨p0, p1, p2⟩ := blkW g1
  have q0 := g2.cell 0
  rw [hW0] at p0 p1 p2 q0
  unfold watV
  rw [hlen]
  clear hE hc hs hL hg b0 g1 g2 hW0 hsuc hlen
  go_enter Tryd.func70, Tryd.ntmps70
  go_wp2_with fail
  rw [← HW0.out]
  clear p0 p1 p2 q0
  go_loopg [10] n (fun g iv wr => ∃ k : Nat, k + g = n ∧ iv = .int .i64 (k : Int) ∧ Hid ((List.range k).all (fun x => a.testBit x || L.any (ansB l all x a)) = true) ∧ Blk wr w.heap.size 74 #[.slice A3 n c3, .func (.func (ruleF all)) #[] #[], vs] ∧ Blk wr (w.heap.size + 1) 64 #[.int .u64 (a : Int)] ∧ Below w.heap.size w wr)
  case atStart => exact ⟨0, by omega, rfl, HK0, HG1.out, HG2.out, HB0.out⟩
  case round =>
    clear HK0 HG1 HG2 HB0
    obtain ⟨k, hkg, rfl, hal, hg1, hg2, hB⟩ := hrel
    obtain ⟨p0, p1, p2⟩ := blkW hg1
    have q0 := hg2.cell 0
    have HB := Lib.hid hB
    cases gk with
    | zero =>
      obtain rfl : k = n := by omega
      have HV2 : Hid (holdB k l all L a = true) := hal.out
      clear hg1 hg2 hB
      go_wp2_with fail
      go_ret
      rw [HV2.out]
      exact ⟨rfl, HB.out⟩
    | succ g2_ =>
      have hlt : k < n := by omega
      have hlt' : (k : Int) < (n : Int) := by omega
      obtain ⟨W1, hW1⟩ : ∃ W1, W1 = wr.alloc (.cells #[.int .i64 (k : Int)] 3) := ⟨_, rfl⟩
      have d1 : Below wr.heap.size wr W1 := by rw [hW1]; exact (Below.refl _ _).alloc (Nat.le_refl _) _
      have HB1 := Lib.hid (btrans hB d1)
      have HG1 := Lib.hid (hg1.below d1 hg1.lt)
      have HG2 := Lib.hid (hg2.below d1 hg2.lt)
      have HG3 : Hid (Blk W1 wr.heap.size 3 #[.int .i64 (k : Int)]) := by show Blk _ _ _ _; rw [hW1]; exact Blk.new wr _ _
      obtain ⟨r0, r1, r2⟩ := blkW HG1.out
      have s0 := HG2.out.cell 0
      have s1 := HG3.out.cell 0
      have HH := Lib.hid (fun (W : World) => has_any a k W (by omega) (by omega))
      have HCF := Lib.hid (containsUU_any vs L 99 #[.pointer (some ⟨w.heap.size, 0, none⟩), .pointer (some ⟨w.heap.size + 1, 0, none⟩), .pointer (some ⟨wr.heap.size, 0, none⟩)] (ansB l all k a) W1 (HS.out.below HB1.out) hLl
        { enter := fun _ _ => by kernel_rfl
          call := fun W hW b hb => holdsClo_any n a b k w.heap.size (w.heap.size + 1) wr.heap.size all (.slice A3 n c3) vs l W (HG1.out.below hW HG1.out.lt) ((HG2.out.below hW HG2.out.lt).cell 0) ((HG3.out.below hW HG3.out.lt).cell 0) (HEN.out.next (btrans HB1.out hW)) (HC.out W (btrans HB1.out hW)) HGD.out hn ha (HLM.out b hb) (by omega) })
      have HW1 := Lib.hid hW1
      rw [hW1] at r0 r1 r2 s0 s1
      have hsk := HSU.out k
      rw [hal.out, Bool.true_and] at hsk
      have HSK := Lib.hid hsk
      clear hg1 hg2 hB d1 hW1 hsk p1
      cases hb1 : a.testBit k with
      | true =>
        have HK : Hid ((List.range (k + 1)).all (fun x => a.testBit x || L.any (ansB l all x a)) = true) := by show _ = _; rw [HSK.out, hb1]; rfl
        rw [hb1] at HH
        clear hb1
        go_wp2_with fail
        refine (HH.out _).mono ?_
        rintro e w' ⟨rfl, rfl⟩
        go_wp2_with fail
        rw [← HW1.out]
        clear p0 p2 q0 r0 r1 r2 s0 s1
        go_roundg g2_
        case measure => omega
        case rel => exact ⟨k + 1, by omega, by go_num, HK, HG1.out, HG2.out, HB1.out⟩
      | false =>
        rw [hb1] at HH
        cases hb2 : L.any (ansB l all k a) with
        | true =>
          have HK : Hid ((List.range (k + 1)).all (fun x => a.testBit x || L.any (ansB l all x a)) = true) := by show _ = _; rw [HSK.out, hb1, hb2]; rfl
          rw [hb2] at HCF
          clear hb1 hb2
          go_wp2_with fail
          refine (HH.out _).mono ?_
          rintro e w' ⟨rfl, rfl⟩
          go_wp2_with fail
          rw [← HW1.out]
          refine HCF.out.mono ?_
          rintro e w2 ⟨rfl, b2⟩
          have HB2 := Lib.hid (btrans HB1.out b2)
          have HG1b := Lib.hid (HG1.out.below b2 HG1.out.lt)
          have HG2b := Lib.hid (HG2.out.below b2 HG2.out.lt)
          clear p0 p2 q0 r0 r1 r2 s0 s1 b2
          go_wp2_with fail
          go_roundg g2_
          case measure => omega
          case rel => exact ⟨k + 1, by omega, by go_num, HK, HG1b.out, HG2b.out, HB2.out⟩
        | false =>
          have HF := Lib.hid (HNO.out k hlt (by rw [hb1, hb2]; rfl))
          rw [hb2] at HCF
          clear hb1 hb2
          go_wp2_with fail
          refine (HH.out _).mono ?_
          rintro e w' ⟨rfl, rfl⟩
          go_wp2_with fail
          rw [← HW1.out]
          refine HCF.out.mono ?_
          rintro e w2 ⟨rfl, b2⟩
          clear p0 p2 q0 r0 r1 r2 s0 s1
          go_wp2_with fail
          first | go_ret | (rw [Exit.noGoto_ret]; go_ret)
          rw [HF.out]
          exact ⟨rfl, btrans HB1.out b2⟩
end Go.Proofs.YthpodbhiopnnbaaDoor.ups

/- Guards: the contract of the program's resistances. -/
namespace Go.Proofs.YthpodbhiopnnbaaDoor.ups
open Go.RowKit Go.Maps P2 words edges ints good adjs fns sets rets covs bags bitsI func lists least near
set_option linter.unusedVariables false

theorem lawU : Keyed Tryd.prog 64 := int_keyed Tryd.underlying64
theorem wfU {a : Nat} (h : a < 256) : (Lit.int .u64 (a : Int)).wf = true := by
  show (decide ((0 : Int) ≤ (a : Int)) && decide ((a : Int) ≤ (18446744073709551615 : Int))) = true
  rw [Bool.and_eq_true, decide_eq_true_iff, decide_eq_true_iff]
  omega
theorem ukey {a : Nat} (h : a < 256) : keyOf Tryd.prog 64 (.int .u64 (a : Int)) = some (.int .u64 (a : Int)) := keyOf_int_mk Tryd.underlying64 (wfU h)
/-- what a table says of a set -/
def AtU (D : DataW Unit) (a : Nat) (v : Int) : Prop := D.atKey (.int .u64 (a : Int)) (.lit (.int .i64 0)) = .lit (.int .i64 v)
theorem AtU.same {D : DataW Unit} {a : Nat} (hD : IsMap D) (ha : a < 256) (v : Int) : AtU (D.put (.int .u64 (a : Int)) (.lit (.int .i64 v))) a v :=
  atKey_put_same hD (lawU.key (ukey ha)) _ _
theorem AtU.other {D : DataW Unit} {a c : Nat} {v u : Int} (h : AtU D a v) (hne : a ≠ c) : AtU (D.put (.int .u64 (c : Int)) (.lit (.int .i64 u))) a v := by
  unfold AtU
  rw [atKey_put_other (fun e => hne (by have := (Lit.int.injEq _ _ _ _ ▸ e); simp at e; omega))]
  exact h
/-- a row of words that is given, or the call's own -/
def RowAt (w wr : World) (v : Value) (U : List Nat) : Prop := (Nums w v U ∧ Below w.heap.size w wr) ∨ (wr.ownsRow w.heap.size 64 1 v U.length (cellsU U) ∧ Below w.heap.size w wr)
theorem RowAt.nums {w wr : World} {v : Value} {U : List Nat} (h : RowAt w wr v U) : Nums wr v U := by
  rcases h with ⟨h, hb⟩ | ⟨h, _⟩
  · exact h.below hb
  · exact Reads.of_own h
theorem RowAt.below {w wr wx : World} {v : Value} {U : List Nat} (h : RowAt w wr v U) (hb : Below wr.heap.size wr wx) : RowAt w wx v U := by
  rcases h with ⟨h, h2⟩ | ⟨h, h2⟩
  · exact .inl ⟨h, btrans h2 hb⟩
  · exact .inr ⟨own_below h hb, btrans h2 hb⟩
theorem own_map {w : World} {B b k : Nat} {v : Value} {xs : List Value} {n : Nat} {D : DataW Unit} (h : w.ownsRow B 64 1 v n xs) (hm : w.ownsMap Tryd.prog 64 (plainElem Tryd.prog 3) b k D) : v.ownBlock = none ∨ v.ownBlock ≠ some b := by
  rcases h.2 with ⟨rfl, _⟩ | ⟨g, cap, cur, rfl, _, hg, _⟩
  · exact .inl rfl
  · refine .inr fun e => ?_
    obtain ⟨es, clock, he, _⟩ := hm
    have : g = b := by simpa [Value.ownBlock] using e
    subst this
    rw [hg] at he
    cases he
theorem RowAt.mapped {w wr wx : World} {v : Value} {U : List Nat} {b k : Nat} {D : DataW Unit} (h : RowAt w wr v U) (hm : wr.ownsMap Tryd.prog 64 (plainElem Tryd.prog 3) b k D) (hb : w.heap.size ≤ b) (hg : wr.grownBy wx (some b)) : RowAt w wx v U := by
  have hx : ∀ {h2 : Below w.heap.size w wr}, Below w.heap.size w wx := fun {h2} => h2.grown hg h2.size (fun j e => by
    have : b = j := by simpa using e
    omega)
  rcases h with ⟨h, h2⟩ | ⟨h, h2⟩
  · exact .inl ⟨h, hx (h2 := h2)⟩
  · exact .inr ⟨h.kept hg (own_map h hm), hx (h2 := h2)⟩
/-- what the program's table says in the end -/
noncomputable def resP (n : Nat) (l : List Ed) (all : Bool) (L : List Nat) (a : Nat) : Int := if resV n l all L a < 0 then 9223372036854775807 else resV n l all L a
/-- the table before round t -/
def TabT (n : Nat) (l : List Ed) (all : Bool) (L : List Nat) (t : Nat) (D : DataW Unit) : Prop := ∀ a s, s < t → Dep n l all L a s → AtU D a (s : Int)
theorem TabT.done {n : Nat} {l : List Ed} {all : Bool} {L : List Nat} {t : Nat} {D : DataW Unit} (h : TabT n l all L t D) (hj : ∀ a ∈ usN n l all L t, AtU D a (t : Int)) : TabT n l all L (t + 1) D := fun a s hs hd => by
  by_cases e : s = t
  · subst e; exact hj a hd.1
  · exact h a s (by omega) hd
theorem TabT.put {n : Nat} {l : List Ed} {all : Bool} {L : List Nat} {t c : Nat} {u : Int} {D : DataW Unit} (h : TabT n l all L t D) (hc : c ∈ usN n l all L t) : TabT n l all L t (D.put (.int .u64 (c : Int)) (.lit (.int .i64 u))) := fun a s hs hd =>
  (h a s hs hd).other fun e => by
    subst e
    exact hd.2 (us_sub (t := s + 1) (d := t - (s + 1)) (by rw [show s + 1 + (t - (s + 1)) = t from by omega]; exact hc))
theorem first_put {U : List Nat} {j c : Nat} {u : Int} {D : DataW Unit} (hD : IsMap D) (h : ∀ a ∈ U.take j, AtU D a u) (hc : U[j]? = some c) (hc8 : c < 256) : ∀ a ∈ U.take (j + 1), AtU (D.put (.int .u64 (c : Int)) (.lit (.int .i64 u))) a u := fun a ha => by
  rw [List.take_add_one, hc, List.mem_append] at ha
  by_cases e : a = c
  · subst e; exact AtU.same hD hc8 u
  · rcases ha with ha | ha
    · exact (h a ha).other e
    · exact absurd (by simpa using ha) e
theorem tab_end {n : Nat} {l : List Ed} {all : Bool} {L : List Nat} {t : Nat} {D : DataW Unit} (hs : usN n l all L (t + 1) = usN n l all L t) (h : TabT n l all L t D) (hj : ∀ a ∈ usN n l all L t, AtU D a 9223372036854775807) : ∀ a ∈ L, AtU D a (resP n l all L a) := fun a ha => by
  unfold resP
  by_cases hin : a ∈ usN n l all L t
  · rw [resV_in hs hin]
    exact hj a hin
  · have hex : ∃ s, s < t ∧ Dep n l all L a s := by
      clear h hj hs
      induction t with
      | zero => exact absurd ha hin
      | succ t ih =>
        by_cases h2 : a ∈ usN n l all L t
        · exact ⟨t, Nat.lt_succ_self t, h2, hin⟩
        · obtain ⟨s, h3, h4⟩ := ih h2
          exact ⟨s, by omega, h4⟩
    obtain ⟨s, hst, hd⟩ := hex
    rw [resV_dep hd, if_neg (by omega)]
    exact h a s hst hd
set_option maxHeartbeats 2000000 in
set_option maxRecDepth 100000 in
theorem resClo_any (n a b1 : Nat) (all : Bool) (vc vs : Value) (L : List Nat) (l : List Ed) (w : World) (h1 : Blk w b1 74 #[vc, .func (.func (ruleF all)) #[] #[], vs]) (hE : Env w) (hc : Nums w vc (clos l n)) (hs : Nums w vs L) (hL : ∀ c ∈ L, c < 2 ^ n) (hLl : L.length ≤ 1048576) (hg : P2.Good (n : Int) l) (hn : n ≤ 8) (ha : a < 2 ^ n) :
    Calls Tryd.prog 94 #[.int .u64 (a : Int), .pointer (some ⟨b1, 0, none⟩)] w fun e w' => e = .returned (.bool (!holdB n l all L a)) ∧ Below w.heap.size w w' := by
  obtain ⟨p0, p1, p2⟩ := blkW h1
  have HI := Lib.hid (holds_any n a all vc vs L l w hE hc hs hL hLl hg hn ha)
  unfold watV at HI
  clear hE hc hs hL hg h1
  go_enter Tryd.func94, Tryd.ntmps94
  go_wp2_with fail
  refine HI.out.mono ?_
  rintro e w1 ⟨rfl, b1⟩
  go_wp2_with fail
  go_ret
  exact ⟨rfl, b1⟩
theorem RowAt.boxed {w wr : World} {v x : Value} {U : List Nat} {R i : Nat} {cs : Array Value} (h : RowAt w wr v U) (hb : Blk wr R 74 cs) (hR : w.heap.size ≤ R) : RowAt w (wr.setCell ⟨R, i, none⟩ x) v U := by
  rcases h with ⟨h, h2⟩ | ⟨h, h2⟩
  · exact .inl ⟨h, h2.setCell (p := ⟨R, i, none⟩) hR x⟩
  · exact .inr ⟨h.kept (gset (World.grownBy.refl wr (some R)) i x) (.inr (mids.own_ne h hb (by decide))), h2.setCell (p := ⟨R, i, none⟩) hR x⟩
theorem blk_map {w w' : World} {R b : Nat} {cs : Array Value} {t : TypeId} (hb : Blk w R t cs) (hg : w.grownBy w' (some b)) (hne : R ≠ b) : Blk w' R t cs := hb.grown hg (by simpa using hne)
set_option maxHeartbeats 8000000 in
set_option maxRecDepth 100000 in
theorem resistances_any (n : Nat) (all : Bool) (vc vs : Value) (L : List Nat) (l : List Ed) (w : World) (hE : Env w) (hc : Nums w vc (clos l n)) (hs : Nums w vs L) (hL : ∀ c ∈ L, c < 2 ^ n) (hLl : L.length ≤ 256) (hg : P2.Good (n : Int) l) (hn : n ≤ 8) :
    Calls Tryd.prog 58 #[watV all vc vs] w fun e w' => ∃ b k D, e = .returned (.map (some b)) ∧ w.heap.size ≤ b ∧ w'.ownsMap Tryd.prog 64 (plainElem Tryd.prog 3) b k (D : DataW Unit) ∧ (∀ a ∈ L, AtU D a (resP n l all L a)) ∧ Below w.heap.size w w' := by
  have hmf : ∀ (fn : Fn) (first cap : Array Value) (w : World), (Instr.makeFunc fn first cap).run Tryd.prog w = .ok (.func fn first cap) w := fun _ _ _ _ => rfl
  have hmm := @run_makeMap Tryd.prog
  obtain ⟨As, cs, rfl, -⟩ := hs.form
  obtain ⟨W0, hW0⟩ : ∃ W0, W0 = (w.alloc (.cells #[vc, .func (.func (ruleF all)) #[] #[], .slice As L.length cs] 74)).alloc (.map #[] 0) := ⟨_, rfl⟩
  have b0 : Below w.heap.size w W0 := by rw [hW0]; exact ((Below.refl _ _).alloc (Nat.le_refl _) _).alloc (by simp) _
  have g1 : Blk W0 w.heap.size 74 #[vc, .func (.func (ruleF all)) #[] #[], .slice As L.length cs] := by rw [hW0]; exact (Blk.new w 74 #[vc, .func (.func (ruleF all)) #[] #[], .slice As L.length cs]).alloc _
  have M0 : W0.ownsMap Tryd.prog 64 (plainElem Tryd.prog 3) (w.heap.size + 1) 0 (.map [] : DataW Unit) := by
    have h_ := World.ownsMap_made (H := Unit) (w.alloc (.cells #[vc, .func (.func (ruleF all)) #[] #[], .slice As L.length cs] 74)) Tryd.prog 64 (plainElem Tryd.prog 3)
    rw [World.size_alloc] at h_
    rw [hW0]; exact h_
  have HC := Lib.hid hc
  have HEN := Lib.hid hE
  have HGD := Lib.hid hg
  have HLM := Lib.hid hL
  have HR0 : Hid (RowAt w W0 (.slice As L.length cs) (usN n l all L 0)) := .inl ⟨hs, b0⟩
  have HB0 := Lib.hid b0
  have HG1 := Lib.hid g1
  have HM0 := Lib.hid M0
  have HW0 := Lib.hid hW0
  have HUM : Hid (∀ t, ∀ c ∈ usN n l all L t, c < 2 ^ n) := fun t c h => hL c (us_mem h)
  have HUL : Hid (∀ t, (usN n l all L t).length ≤ 256) := fun t => by
    induction t with
    | zero => exact hLl
    | succ t ih => exact Nat.le_trans (us_len t) ih
  have HG0 : Hid (Goes n l all L 0 ∧ TabT n l all L 0 (.map [])) := ⟨Goes.zero n l all L, fun a s h => by omega⟩
  have HPW := Lib.hid (pow_le hn)
  have HUF : Hid (∀ t, (usN n l all L t).filter (fun x => !!holdB n l all (usN n l all L t) x) = usN n l all L (t + 1)) := fun t => by
    show _ = (usN n l all L t).filter _
    congr 1; funext x; rw [Bool.not_not]
  obtain ⟨p0, p1, p2⟩ := blkW g1
  rw [hW0] at p0 p1 p2
  have HL0 : Hid (L.length = (usN n l all L 0).length) := rfl
  unfold watV
  clear hE hc hs hL hg b0 g1 M0 hW0
  go_enter Tryd.func58, Tryd.ntmps58
  go_wp2_with fail
  rw [← HW0.out]
  clear p0 p1 p2
  go_loopg [4] (L.length + 1) (fun g tv wr => ∃ (t k : Nat) (D : DataW Unit) (At : Option Addr) (ct : Nat), t + g = L.length + 1 ∧ tv = .int .i64 (t : Int) ∧ Hid (Goes n l all L t ∧ TabT n l all L t D) ∧ k ≤ t * 256 ∧ Blk wr w.heap.size 74 #[vc, .func (.func (ruleF all)) #[] #[], .slice At (usN n l all L t).length ct] ∧ Hid (RowAt w wr (.slice At (usN n l all L t).length ct) (usN n l all L t)) ∧ wr.ownsMap Tryd.prog 64 (plainElem Tryd.prog 3) (w.heap.size + 1) k D ∧ Below w.heap.size w wr)
  case atStart => exact ⟨0, 0, _, As, cs, by omega, rfl, HG0, by omega, HG1.out, HR0, HM0.out, HB0.out⟩
  case round =>
    clear HG0 HG1 HR0 HM0 HB0
    obtain ⟨t, k, D, At, ct, htg, rfl, hgo, hk, hgb, hra, hmp, hB⟩ := hrel
    obtain ⟨p0, p1, p2⟩ := blkW hgb
    have HB := Lib.hid hB
    have HG := Lib.hid hgb
    have HM := Lib.hid hmp
    have hul := HUL.out t
    have htl : t ≤ L.length := by have := hgo.out.1; unfold Goes at this; omega
    obtain ⟨g2, rfl⟩ : ∃ g2, gk = g2 + 1 := ⟨gk - 1, by omega⟩
    have HCL := Lib.hid (cloneC_any (.slice At (usN n l all L t).length ct) (usN n l all L t) wr hra.out.nums (by omega))
    have HDEL := Lib.hid (fun (A2 : Option Addr) (c2 : Nat) (w2 : World) (o2 : w2.ownsRow wr.heap.size 64 1 (.slice A2 (usN n l all L t).length c2) (usN n l all L t).length (cellsU (usN n l all L t))) (b2 : Below wr.heap.size wr w2) =>
      deleteFuncU_own wr.heap.size (.slice A2 (usN n l all L t).length c2) (usN n l all L t) 94 #[.pointer (some ⟨w.heap.size, 0, none⟩)] (fun x => !holdB n l all (usN n l all L t) x) (fun W => Below wr.heap.size wr W) w2 o2 (by omega)
      { go := fun W W' h1 h2 => h1.trans (h2.mono h1.size)
        set := fun g hg W j u h => h.setCell (p := ⟨g, j, none⟩) (o2.lt g hg).1 u }
      { enter := fun _ _ => by kernel_rfl
        call := fun W hW a ha => resClo_any n a w.heap.size all vc (.slice At (usN n l all L t).length ct) (usN n l all L t) l W (HG.out.below hW HG.out.lt) (HEN.out.next (btrans HB.out hW)) (HC.out.below (btrans HB.out hW)) ((hra.out.below hW).nums) (HUM.out t) (by omega) HGD.out hn (HUM.out t a ha) } b2)
    rw [HUF.out t] at HDEL
    have hun := us_len (n := n) (l := l) (all := all) (L := L) t
    have HFX := Lib.hid (us_fix (n := n) (l := l) (all := all) (L := L) (t := t))
    have HUMt := Lib.hid (HUM.out t)
    have HTE := Lib.hid (fun (D : DataW Unit) (hs : usN n l all L (t + 1) = usN n l all L t) => tab_end (D := D) hs)
    have HGN := Lib.hid (hgo.out.1.next)
    have HDN := Lib.hid (fun (D : DataW Unit) => TabT.done (n := n) (l := l) (all := all) (L := L) (t := t) (D := D))
    have HPT := Lib.hid (fun (c : Nat) (u : Int) (D : DataW Unit) => TabT.put (n := n) (l := l) (all := all) (L := L) (t := t) (c := c) (u := u) (D := D))
    generalize usN n l all L t = U at *
    generalize hVE : usN n l all L (t + 1) = V at *
    have HVE := Lib.hid hVE
    clear hVE
    clear hgb hmp
    go_wp2_with fail
    refine HCL.out.mono ?_
    rintro e w2 ⟨A2, c2, rfl, o2, b2⟩
    have HD2 := Lib.hid (HDEL.out A2 c2 w2 o2 b2)
    have HG2 := Lib.hid (HG.out.below b2 HG.out.lt)
    clear p0 p1 p2 o2 b2
    obtain ⟨p0, p1, p2⟩ := blkW HG2.out
    go_wp2_with fail
    refine HD2.out.mono ?_
    rintro e w3 ⟨A3, c3, rfl, o3, -, hk3⟩
    have HG3 := Lib.hid (HG.out.below hk3 HG.out.lt)
    have HB3 := Lib.hid (btrans HB.out hk3)
    have HM3 : Hid (w3.ownsMap Tryd.prog 64 (plainElem Tryd.prog 3) (w.heap.size + 1) k D) := HM.out.kept (row := none) (gof hk3 none) (by simp)
    have HRU := Lib.hid (hra.out.below hk3)
    have HRV : Hid (RowAt w w3 (.slice A3 V.length c3) V) := .inr ⟨own_base o3 HB.out.size, HB3.out⟩
    clear p0 p1 p2 o3 hk3
    obtain ⟨p0, p1, p2⟩ := blkW HG3.out
    by_cases hlen : V.length = U.length
    · have HVU := Lib.hid (HFX.out hlen)
      have hq1 : ((V.length : Int) == (U.length : Int)) = true := by rw [hlen]; simp
      have hq2 : (V.length == U.length) = true := by rw [hlen]; simp
      clear hlen
      go_wp2_with fail
      have HTT : Hid (TabT n l all L t D ∧ ∀ a ∈ U.take 0, AtU D a 9223372036854775807) := ⟨hgo.out.2, fun a ha => by simp at ha⟩
      clear p0 p1 p2 hgo
      go_loopg [9, 40] U.length (fun g _ iv wr => ∃ (j k2 : Nat) (D2 : DataW Unit), j + g = U.length ∧ iv = .int .i64 (j : Int) ∧ Hid (TabT n l all L t D2 ∧ ∀ a ∈ U.take j, AtU D2 a 9223372036854775807) ∧ k2 ≤ k + j ∧ wr.ownsMap Tryd.prog 64 (plainElem Tryd.prog 3) (w.heap.size + 1) k2 D2 ∧ Blk wr w.heap.size 74 #[vc, .func (.func (ruleF all)) #[] #[], .slice At U.length ct] ∧ Hid (RowAt w wr (.slice At U.length ct) U) ∧ Hid (RowAt w wr (.slice A3 V.length c3) V) ∧ Below w.heap.size w wr)
      case atStart => exact ⟨0, k, D, by omega, rfl, HTT, by omega, HM3.out, HG3.out, HRU, HRV, HB3.out⟩
      case round =>
        clear HTT HM3 HG3 HRU HRV HB3
        obtain ⟨j, k2, D2, hjg, rfl, htb, hk2, hmp, hgb, hru, hrv, hB⟩ := hrel
        obtain ⟨p0, p1, p2⟩ := blkW hgb
        have HB := Lib.hid hB
        have HG := Lib.hid hgb
        have hsz := hB.size
        cases gk with
        | zero =>
          obtain rfl : j = U.length := by omega
          have HT2 := Lib.hid (HTE.out D2 HVU.out htb.out.1 (fun a ha => htb.out.2 a (by rw [List.take_length]; exact ha)))
          have HM6 := Lib.hid hmp
          clear hgb hmp hB htb hru hrv
          go_wp2_with fail
          first | go_ret | (rw [Exit.noGoto_ret]; go_ret)
          exact ⟨_, k2, D2, rfl, Nat.le_succ _, HM6.out, HT2.out, HB.out⟩
        | succ g3 =>
          have hlt : j < U.length := by omega
          have hlt' : (j : Int) < (U.length : Int) := by omega
          obtain ⟨a, ha⟩ : ∃ a, U[j]? = some a := ⟨_, List.getElem?_eq_getElem hlt⟩
          have ham := List.mem_of_getElem? ha
          have ha8 : a < 256 := by have := HUMt.out a ham; have := HPW.out; omega
          obtain ⟨_, _, hfx, hcx⟩ := hru.out.nums.form
          cases hfx
          obtain ⟨g5, o5, rfl, c5⟩ := hcx j a ha
          have HK := Lib.hid (ukey ha8)
          have HTB2 : Hid (TabT n l all L t (D2.put (.int .u64 (a : Int)) (.lit (.int .i64 9223372036854775807))) ∧ ∀ x ∈ U.take (j + 1), AtU (D2.put (.int .u64 (a : Int)) (.lit (.int .i64 9223372036854775807))) x 9223372036854775807) := ⟨HPT.out a 9223372036854775807 D2 htb.out.1 ham, first_put hmp.isMap htb.out.2 ha ha8⟩
          have HWF : Hid ((Lit.int .i64 (9223372036854775807 : Int)).wf = true) := rfl
          have HMP := Lib.hid hmp
          clear ha ham hcx hgb hB
          go_wp2_with (at_mapUpdate; refine wpList_mapUpdate_own _ rfl _ _ _ 81 rfl 64 3 lawU Tryd.underlying81 _ (w.heap.size + 1) k2 _ rfl hmp (by unfold maxLen; omega) _ _ _ rfl rfl HK.out _ [] (plainElem_int Tryd.underlying3 HWF.out) ?_; intro w5 hown5 hgrow5)
          have HM5 := Lib.hid hown5
          have HG5 := Lib.hid (blk_map HG.out hgrow5 (by omega))
          have HRU5 := Lib.hid (hru.out.mapped HMP.out (by omega) hgrow5)
          have HRV5 := Lib.hid (hrv.out.mapped HMP.out (by omega) hgrow5)
          have HB5 := Lib.hid (HB.out.grown hgrow5 HB.out.size (fun i e => by simp at e; omega))
          clear hown5 hgrow5 p0 p1 p2 c5 hmp
          go_roundg g3
          case measure => omega
          case rel => exact ⟨j + 1, k2 + 1, _, by omega, by go_num, HTB2, by omega, HM5.out, HG5.out, HRU5, HRV5, HB5.out⟩
    · have hq1 : ((V.length : Int) == (U.length : Int)) = false := by rw [beq_eq_false_iff_ne]; omega
      have hq2 : (V.length == U.length) = false := by rw [beq_eq_false_iff_ne]; exact hlen
      have HGX := Lib.hid (HGN.out hlen)
      clear hlen
      go_wp2_with fail
      have HTT : Hid (TabT n l all L t D ∧ ∀ a ∈ U.take 0, AtU D a (t : Int)) := ⟨hgo.out.2, fun a ha => by simp at ha⟩
      clear p0 p1 p2 hgo
      go_loopg [7, 27] U.length (fun g _ iv wr => ∃ (j k2 : Nat) (D2 : DataW Unit), j + g = U.length ∧ iv = .int .i64 (j : Int) ∧ Hid (TabT n l all L t D2 ∧ ∀ a ∈ U.take j, AtU D2 a (t : Int)) ∧ k2 ≤ k + j ∧ wr.ownsMap Tryd.prog 64 (plainElem Tryd.prog 3) (w.heap.size + 1) k2 D2 ∧ Blk wr w.heap.size 74 #[vc, .func (.func (ruleF all)) #[] #[], .slice At U.length ct] ∧ Hid (RowAt w wr (.slice At U.length ct) U) ∧ Hid (RowAt w wr (.slice A3 V.length c3) V) ∧ Below w.heap.size w wr)
      case atStart => exact ⟨0, k, D, by omega, rfl, HTT, by omega, HM3.out, HG3.out, HRU, HRV, HB3.out⟩
      case round =>
        clear HTT HM3 HG3 HRU HRV HB3
        obtain ⟨j, k2, D2, hjg, rfl, htb, hk2, hmp, hgb, hru, hrv, hB⟩ := hrel
        obtain ⟨p0, p1, p2⟩ := blkW hgb
        have HB := Lib.hid hB
        have HG := Lib.hid hgb
        have hsz := hB.size
        cases gk with
        | zero =>
          obtain rfl : j = U.length := by omega
          have HT2 := Lib.hid (HDN.out D2 htb.out.1 (fun a ha => htb.out.2 a (by rw [List.take_length]; exact ha)))
          have y2 := hgb.frozen 2
          have HG6 : Hid (Blk (wr.setCell ⟨w.heap.size, 2, none⟩ (.slice A3 V.length c3)) w.heap.size 74 #[vc, .func (.func (ruleF all)) #[] #[], .slice A3 V.length c3]) := by
            have h_ := hgb.set_ 2 (.slice A3 V.length c3)
            show Blk _ _ _ _
            simpa using h_
          have HRV6 := Lib.hid (hrv.out.boxed (i := 2) (x := .slice A3 V.length c3) hgb (Nat.le_refl _))
          have HM6 := Lib.hid (hmp.setCell (a := ⟨w.heap.size, 2, none⟩) (by show w.heap.size + 1 ≠ w.heap.size; omega) (.slice A3 V.length c3))
          have HB6 := Lib.hid (hB.setCell (p := ⟨w.heap.size, 2, none⟩) (Nat.le_refl _) (.slice A3 V.length c3))
          clear hgb hmp hB htb hru hrv
          go_wp2_with fail
          go_roundg g2
          case measure => omega
          case rel =>
            refine ⟨t + 1, k2, D2, A3, c3, by omega, by go_num, ⟨HGX.out, HT2.out⟩, by omega, ?_⟩
            rw [HVE.out]
            exact ⟨HG6.out, HRV6, HM6.out, HB6.out⟩
        | succ g3 =>
          have hlt : j < U.length := by omega
          have hlt' : (j : Int) < (U.length : Int) := by omega
          obtain ⟨a, ha⟩ : ∃ a, U[j]? = some a := ⟨_, List.getElem?_eq_getElem hlt⟩
          have ham := List.mem_of_getElem? ha
          have ha8 : a < 256 := by have := HUMt.out a ham; have := HPW.out; omega
          obtain ⟨_, _, hfx, hcx⟩ := hru.out.nums.form
          cases hfx
          obtain ⟨g5, o5, rfl, c5⟩ := hcx j a ha
          have HK := Lib.hid (ukey ha8)
          have HTB2 : Hid (TabT n l all L t (D2.put (.int .u64 (a : Int)) (.lit (.int .i64 (t : Int)))) ∧ ∀ x ∈ U.take (j + 1), AtU (D2.put (.int .u64 (a : Int)) (.lit (.int .i64 (t : Int)))) x (t : Int)) := ⟨HPT.out a (t : Int) D2 htb.out.1 ham, first_put hmp.isMap htb.out.2 ha ha8⟩
          have HWF : Hid ((Lit.int .i64 ((t : Int) : Int)).wf = true) := wf64 ⟨by omega, by omega⟩
          have HMP := Lib.hid hmp
          clear ha ham hcx hgb hB
          go_wp2_with (at_mapUpdate; refine wpList_mapUpdate_own _ rfl _ _ _ 81 rfl 64 3 lawU Tryd.underlying81 _ (w.heap.size + 1) k2 _ rfl hmp (by unfold maxLen; omega) _ _ _ rfl rfl HK.out _ [] (plainElem_int Tryd.underlying3 HWF.out) ?_; intro w5 hown5 hgrow5)
          have HM5 := Lib.hid hown5
          have HG5 := Lib.hid (blk_map HG.out hgrow5 (by omega))
          have HRU5 := Lib.hid (hru.out.mapped HMP.out (by omega) hgrow5)
          have HRV5 := Lib.hid (hrv.out.mapped HMP.out (by omega) hgrow5)
          have HB5 := Lib.hid (HB.out.grown hgrow5 HB.out.size (fun i e => by simp at e; omega))
          clear hown5 hgrow5 p0 p1 p2 c5 hmp
          go_roundg g3
          case measure => omega
          case rel => exact ⟨j + 1, k2 + 1, _, by omega, by go_num, HTB2, by omega, HM5.out, HG5.out, HRU5, HRV5, HB5.out⟩
end Go.Proofs.YthpodbhiopnnbaaDoor.ups

/- The contract of the program's resultsOf with numbers. -/
namespace Go.Proofs.YthpodbhiopnnbaaDoor.ups
open Go.RowKit P2 words edges ints good adjs fns sets rets covs bitsI func
set_option linter.unusedVariables false

/-- a function value that returns numbers for the elements of a list of words, in every world that goes on from w -/
structure FnN (w : World) (f : FuncId) (caps : Array Value) (xs : List Nat) (F : Nat → Int) : Prop where
  enter : ∀ (args : Array Value) (W : World), (callFunc f args).run Tryd.prog W = .ok (.enter f args) W
  call : ∀ W, Below w.heap.size w W → ∀ x ∈ xs, Calls Tryd.prog f (#[.int .u64 (x : Int)] ++ caps) W fun e W' => e = .returned (.int .i64 (F x)) ∧ Below W.heap.size W W'
theorem FnN.on {w w' : World} {f : FuncId} {caps : Array Value} {xs : List Nat} {F : Nat → Int} (h : FnN w f caps xs F) (hb : Below w.heap.size w w') : FnN w' f caps xs F :=
  { enter := h.enter, call := fun W hW x hx => h.call W (btrans hb hW) x hx }
/-- so many numbers are there -/
def numT (L : List Nat) (F : Nat → Int) (k : Nat) : List Int := (L.take k).map F ++ List.replicate (L.length - k) 0
theorem numT_len (L : List Nat) (F : Nat → Int) {k : Nat} (h : k ≤ L.length) : (numT L F k).length = L.length := by simp [numT]; omega
theorem numT_zero (L : List Nat) (F : Nat → Int) : numT L F 0 = List.replicate L.length 0 := by simp [numT]
theorem numT_all (L : List Nat) (F : Nat → Int) : numT L F L.length = L.map F := by simp [numT]
theorem numT_succ {L : List Nat} {F : Nat → Int} {k c : Nat} (h : L[k]? = some c) : (numT L F k).set k (F c) = numT L F (k + 1) := by
  have hk := (List.getElem?_eq_some_iff.1 h).1
  have hl : ((L.take k).map F).length = k := by rw [List.length_map, List.length_take]; omega
  unfold numT
  obtain ⟨m, hm⟩ : ∃ m, L.length - k = m + 1 := ⟨L.length - k - 1, by omega⟩
  rw [List.set_append, if_neg (by omega), hl, Nat.sub_self, hm, List.replicate_succ, List.set_cons_zero, List.take_add_one, h, show L.length - (k + 1) = m from by omega, List.map_append, List.append_assoc]
  rfl
set_option maxHeartbeats 4000000 in
set_option maxRecDepth 100000 in
theorem resultsN_any (u : Value) (L : List Nat) (f : FuncId) (caps : Array Value) (F : Nat → Int) (w : World) (hu : Nums w u L) (hl : L.length ≤ 1048576) (h : FnN w f caps L F) :
    Calls Tryd.prog 59 #[u, .func (.func f) #[] caps] w (RowI w (L.map F)) := by
  obtain ⟨A, c, rfl, hc⟩ := hu.form
  have HU := Lib.hid hu
  have hent := h.enter
  have HF := Lib.hid h.call
  obtain ⟨i0, hi, hz0, hz1, hz2⟩ := info_parts infoInt
  have hmk := fun (W : World) => run_make_rowN (P := Tryd.prog) 25 3 i0 (.int .i64 0) Tryd.underlying25 hi hz0 .i64 .i64 L.length L.length (Nat.le_refl _) (by rw [hz2]; omega) (by omega) W
  have hown := World.ownsRow_lit (base := w.heap.size) (e := 3) (size := 1) w (madeCells #[Value.int .i64 0] (L.length * 1)) L.length (Nat.le_refl _) (by unfold maxLen; omega) (size_madeCells _ _)
  rw [toList_madeCells_one, Nat.mul_one, show List.replicate L.length (Value.int .i64 0) = cellsI (numT L F 0) from by rw [numT_zero]; simp [cellsI]] at hown
  have HOWN := Lib.hid hown
  have HB2 : Hid (Below w.heap.size w (w.alloc (.cells (madeCells #[Value.int .i64 0] L.length) 3))) := (Below.refl _ _).alloc (Nat.le_refl _) _
  clear hu hc h hown
  go_enter Tryd.func59, Tryd.ntmps59
  go_wp2_with fail
  go_loopg [6, 7, 13] L.length (fun g _ _ i wr => ∃ (k : Nat), k + g = L.length ∧ i = .int .i64 (k : Int) ∧ wr.ownsRow w.heap.size 3 1 (.slice (some ⟨w.heap.size, 0, none⟩) L.length L.length) L.length (cellsI (numT L F k)) ∧ Below w.heap.size w wr)
  case atStart => exact ⟨0, by omega, rfl, HOWN.out, HB2.out⟩
  case round =>
    clear HOWN HB2 hmk
    obtain ⟨k, hkg, rfl, hrow, hB⟩ := hrel
    cases gk with
    | zero =>
      obtain rfl : k = L.length := by omega
      rw [numT_all] at hrow
      have HR := Lib.hid hrow
      have HB := Lib.hid hB
      clear hrow hB
      go_wp2_with fail
      go_ret
      exact ⟨some ⟨w.heap.size, 0, none⟩, L.length, by rw [List.length_map]; rfl, by rw [List.length_map]; exact HR.out, HB.out⟩
    | succ g2 =>
      have hlt : k < L.length := by omega
      have hlt' : (k : Int) < (L.length : Int) := by omega
      obtain ⟨x, hx⟩ : ∃ x, L[k]? = some x := ⟨_, List.getElem?_eq_getElem hlt⟩
      obtain ⟨_, _, hf2, hcc⟩ := (show Nums wr (.slice A L.length c) L from HU.out.below hB).form
      cases hf2
      obtain ⟨g5, o5, rfl, c5⟩ := hcc k x hx
      have HD := Lib.hid (HF.out wr hB x (List.mem_of_getElem? hx))
      have HR := Lib.hid hrow
      have HB := Lib.hid hB
      have HX := Lib.hid hx
      have HTL := Lib.hid (numT_len L F (k := k) (by omega))
      clear hrow hB hx hcc
      go_wp2_with fail
      refine HD.out.mono ?_
      rintro e w3 ⟨rfl, b3⟩
      have h1 := own_below HR.out b3
      obtain ⟨u0, hu0⟩ : ∃ u, (numT L F k)[k]? = some u := ⟨_, List.getElem?_eq_getElem (by rw [HTL.out]; exact hlt)⟩
      have f0 := h1.cellAt k (by omega)
      rw [show (cellsI (numT L F k))[k]? = some (.int .i64 u0) from by simp [cellsI, hu0]] at f0
      have z0 := h1.frozenAt k
      have hst := (h1.stored k (.int .i64 (F x))).1
      rw [show (cellsI (numT L F k)).set k (.int .i64 (F x)) = cellsI (numT L F (k + 1)) from by rw [← numT_succ HX.out]; simp [cellsI, List.map_set]] at hst
      have HS := Lib.hid hst
      have HB3 := Lib.hid (btrans HB.out b3)
      clear h1 hst hu0 c5 b3
      go_wp2_with fail
      go_roundg g2
      case measure => omega
      case rel => exact ⟨k + 1, by omega, by go_num, HS.out, HB3.out.setCell (Nat.le_refl _) _⟩
end Go.Proofs.YthpodbhiopnnbaaDoor.ups

/- Guards: the contract of the program's Resistances. -/
namespace Go.Proofs.YthpodbhiopnnbaaDoor.ups
open Go.RowKit Go.Maps P2 words edges ints good adjs fns sets rets covs bags bitsI func lists least near
set_option linter.unusedVariables false

/-- the resistances of all sets -/
noncomputable def rsvL (s : Int) (l : List Ed) (all : Bool) (k : Int) : List Int := (setsK s.toNat k.toNat).map (resV s.toNat l all (setsK s.toNat k.toNat))
theorem resP_back {n : Nat} {l : List Ed} {all : Bool} {L : List Nat} {a : Nat} (hL : L.length ≤ 256) (ha : a ∈ L) : resV n l all L a < 9223372036854775807 ∧ -1 ≤ resV n l all L a := by
  by_cases h : ∃ t, Dep n l all L a t
  · obtain ⟨t, ht⟩ := h
    rw [resV_dep ht]
    have : ∀ t, (usN n l all L (t + 1)).length < (usN n l all L t).length → t < L.length := by
      intro t h1
      have h2 : ∀ s, s ≤ t → (usN n l all L s).length + s ≤ L.length := by
        intro s
        induction s with
        | zero => intro _; exact Nat.le_refl _
        | succ s ih =>
          intro hs
          have h3 := ih (by omega)
          have h4 := us_len (n := n) (l := l) (all := all) (L := L) s
          by_cases h5 : (usN n l all L (s + 1)).length = (usN n l all L s).length
          · have h6 := us_stable (us_fix h5) (t - s)
            have h7 := us_stable (us_fix h5) (t + 1 - s)
            rw [show s + (t - s) = t from by omega] at h6
            rw [show s + (t + 1 - s) = t + 1 from by omega] at h7
            rw [h6, h7] at h1
            omega
          · omega
      have := h2 t (Nat.le_refl _)
      omega
    have hne : (usN n l all L (t + 1)).length < (usN n l all L t).length := by
      have h1 := us_len (n := n) (l := l) (all := all) (L := L) t
      by_cases e : (usN n l all L (t + 1)).length = (usN n l all L t).length
      · have := us_fix e
        exact absurd (this ▸ ht.1) ht.2
      · omega
    have := this t hne
    omega
  · unfold resV
    rw [okG_no h]
    simp
set_option maxHeartbeats 2000000 in
set_option maxRecDepth 100000 in
theorem rsvClo_any (n a b1 b k : Nat) (all : Bool) (L : List Nat) (l : List Ed) (D : DataW Unit) (w : World) (h1 : w.cell? ⟨b1, 0, none⟩ = some (.map (some b))) (hm : w.ownsMap Tryd.prog 64 (plainElem Tryd.prog 3) b k D) (hD : AtU D a (resP n l all L a)) (hL : L.length ≤ 256) (ha : a ∈ L) (ha8 : a < 256) :
    Calls Tryd.prog 60 #[.int .u64 (a : Int), .pointer (some ⟨b1, 0, none⟩)] w fun e w' => e = .returned (.int .i64 (resV n l all L a)) ∧ Below w.heap.size w w' := by
  have hb := resP_back (n := n) (l := l) (all := all) hL ha
  have HK := Lib.hid (ukey ha8)
  unfold resP at hD
  generalize resV n l all L a = r at *
  by_cases hr : r < 0
  · obtain rfl : r = -1 := by omega
    rw [if_pos hr] at hD
    have HD := Lib.hid hD
    clear hb hr hD
    go_enter Tryd.func60, Tryd.ntmps60
    go_wp2_with (at_lookup; refine wpList_lookup_own_int _ rfl _ _ 81 rfl 64 3 .i64 lawU Tryd.underlying81 Tryd.underlying3 rfl b k D rfl hm _ _ rfl HK.out ?_; intro c hc _; obtain rfl : c = 9223372036854775807 := (by have h_ := hc.symm.trans HD.out; simpa using h_))
    go_ret
    exact ⟨rfl, Below.refl _ _⟩
  · rw [if_neg hr] at hD
    have HD := Lib.hid hD
    have hq : (r == 9223372036854775807) = false := by rw [beq_eq_false_iff_ne]; omega
    clear hb hr hD
    go_enter Tryd.func60, Tryd.ntmps60
    go_wp2_with (at_lookup; refine wpList_lookup_own_int _ rfl _ _ 81 rfl 64 3 .i64 lawU Tryd.underlying81 Tryd.underlying3 rfl b k D rfl hm _ _ rfl HK.out ?_; intro c hc _; obtain rfl : r = c := (by have h_ := hc.symm.trans HD.out; simp at h_; exact h_.symm))
    go_ret
    exact ⟨rfl, Below.refl _ _⟩
set_option maxHeartbeats 4000000 in
set_option maxRecDepth 100000 in
theorem implRsv_any (s k : Int) (all : Bool) (v : Value) (l : List Ed) (w : World) (hE : Env w) (h : Edges w v l) (hl : l.length ≤ 1048576) :
    Calls Tryd.prog 24 #[.agg #[.int .i64 s, v], .int .i64 k, .bool all] w (RetI w (GrdOk s l k) (rsvL s l all k)) := by
  obtain ⟨A, c, rfl, -⟩ := h.form
  have hmf : ∀ (fn : Fn) (first cap : Array Value) (w : World), (Instr.makeFunc fn first cap).run Tryd.prog w = .ok (.func fn first cap) w := fun _ _ _ _ => rfl
  have H := Lib.hid h
  have HEN := Lib.hid hE
  have b0 : Below w.heap.size w (w.alloc (.cells #[.int .i64 s, .slice A l.length c] 29)) := (Below.refl _ _).alloc (Nat.le_refl _) _
  have g0 := Blk.new w 29 #[.int .i64 s, .slice A l.length c]
  obtain ⟨p0, p1, -, -⟩ := g0.two
  have HN := Lib.hid (hasGuards_any s k _ l _ (h.below b0) hl)
  have HB0 := Lib.hid b0
  have HG0 := Lib.hid g0
  clear h b0 g0 hE
  by_cases hok : GrdOk s l k
  · rw [okG_yes hok] at HN
    have HOK := Lib.hid hok
    have h0 := hok.1.1
    have h8 := hok.1.2.1
    have hk0 := hok.2.1
    have hks := hok.2.2
    obtain ⟨n, rfl⟩ : ∃ n : Nat, s = (n : Int) := ⟨s.toNat, by omega⟩
    obtain ⟨m, rfl⟩ : ∃ m : Nat, k = (m : Int) := ⟨k.toNat, by omega⟩
    have hn : n ≤ 8 := by omega
    have hm : m ≤ 8 := by omega
    have HV : Hid (rsvL (n : Int) l all (m : Int) = (setsK n m).map (resV n l all (setsK n m))) := by show _ = _; unfold rsvL; rw [Int.toNat_natCast, Int.toNat_natCast]
    have hsl := setsK_len hn hm
    have HWI := Lib.hid (fun (W : World) (hW : Below w.heap.size w W) => watchIn_any n m all (.slice A l.length c) l W (H.out.below hW) hl hok.1 hn hm)
    have HRE := Lib.hid (fun (W : World) (vc vs : Value) (hW : Below w.heap.size w W) (hc : Nums W vc (clos l n)) (hs : Nums W vs (setsK n m)) => resistances_any n all vc vs (setsK n m) l W (HEN.out.next hW) hc hs (fun c hc => ((setsK_mem hn hm).1 hc).1) hsl hok.1 hn)
    have HM8 : Hid (∀ c ∈ setsK n m, c < 256) := fun c hc => Nat.lt_of_lt_of_le ((setsK_mem hn hm).1 hc).1 (pow_le hn)
    clear hok
    generalize setsK n m = L at *
    go_enter Tryd.func24, Tryd.ntmps24
    go_wp2_with fail
    refine HN.out.mono ?_
    rintro e w1 ⟨rfl, b1⟩
    have HE1 := Lib.hid (btrans HB0.out b1)
    have HG1 := Lib.hid (HG0.out.below b1 HG0.out.lt)
    clear p0 p1 b1 HN HB0 HG0
    obtain ⟨p0, p1, -, -⟩ := HG1.out.two
    go_wp2_with fail
    refine (HWI.out w1 HE1.out).mono ?_
    rintro e w2 ⟨A3, c3, A4, c4, rfl, i3, o4, b2⟩
    obtain ⟨W2, hW2⟩ : ∃ W2, W2 = w2.alloc (.cells #[.slice A3 (clos l n).length c3, .func (.func (ruleF all)) #[] #[], .slice A4 L.length c4] 74) := ⟨_, rfl⟩
    have e2 := btrans HE1.out b2
    have d2 : Below w2.heap.size w2 W2 := by rw [hW2]; exact (Below.refl _ _).alloc (Nat.le_refl _) _
    have HE2 := Lib.hid (btrans e2 d2)
    have HK2 : Hid (Blk W2 w2.heap.size 74 #[.slice A3 (clos l n).length c3, .func (.func (ruleF all)) #[] #[], .slice A4 L.length c4]) := by show Blk _ _ _ _; rw [hW2]; exact Blk.new _ _ _
    have HL2 : Hid (Nums W2 (.slice A4 L.length c4) L) := (show Nums w2 _ _ from Reads.of_own o4).below d2
    have HRE2 := Lib.hid (HRE.out W2 _ _ HE2.out (i3.below d2) HL2.out)
    have HW2 := Lib.hid hW2
    obtain ⟨q0, q1, q2⟩ := blkW HK2.out
    rw [hW2] at q0 q1 q2
    unfold watV at HRE2 ⊢
    clear p0 p1 b2 i3 o4 hW2 e2 d2
    go_wp2_with fail
    rw [← HW2.out]
    refine HRE2.out.mono ?_
    rintro e w3 ⟨b, km, D, rfl, hbw, hmp, hat, b3⟩
    obtain ⟨W3, hW3⟩ : ∃ W3, W3 = w3.alloc (.cells #[.map (some b)] 81) := ⟨_, rfl⟩
    have d3 : Below w3.heap.size w3 W3 := by rw [hW3]; exact (Below.refl _ _).alloc (Nat.le_refl _) _
    have e3 : Below W2.heap.size W2 W3 := btrans b3 d3
    have HE3 := Lib.hid (btrans HE2.out e3)
    have HK3 : Hid (Blk W3 w3.heap.size 81 #[.map (some b)]) := by show Blk _ _ _ _; rw [hW3]; exact Blk.new _ _ _
    have HM3 : Hid (W3.ownsMap Tryd.prog 64 (plainElem Tryd.prog 3) b km D) := by show World.ownsMap _ _ _ _ _ _ _; rw [hW3]; exact hmp.alloc _
    have HK4 := Lib.hid (HK2.out.below e3 HK2.out.lt)
    have HRS := Lib.hid (resultsN_any (.slice A4 L.length c4) L 60 #[.pointer (some ⟨w3.heap.size, 0, none⟩)] (resV n l all L) W3 (HL2.out.below e3) (by omega)
      { enter := fun _ _ => by kernel_rfl
        call := fun W hW x hx => rsvClo_any n x w3.heap.size b km all L l D W ((HK3.out.below hW HK3.out.lt).cell 0) (HM3.out.kept (row := none) (gof hW none) (by simp)) (hat x hx) hsl hx (HM8.out x hx) })
    generalize L.map (resV n l all L) = RM at *
    have HW3 := Lib.hid hW3
    obtain ⟨r0, r1, r2⟩ := blkW HK4.out
    rw [hW3] at r0 r1 r2
    clear q0 q1 q2 hmp hat b3 hW3 d3 e3 hbw
    go_wp2_with fail
    rw [← HW3.out]
    refine HRS.out.mono ?_
    rintro e w4 ⟨A6, c6, rfl, o6, b4⟩
    go_wp2_with fail
    go_ret2
    rw [HV.out]
    exact RetI.yes HOK.out (own_base o6 HE3.out.size) (btrans HE3.out b4)
  · rw [okG_no hok] at HN
    have HNO := Lib.hid hok
    clear hok
    go_enter Tryd.func24, Tryd.ntmps24
    go_wp2_with fail
    refine HN.out.mono ?_
    rintro e w1 ⟨rfl, b1⟩
    have HE1 := Lib.hid (btrans HB0.out b1)
    clear p0 p1 b1
    go_wp2_with fail
    go_ret2
    exact RetI.nil HNO.out HE1.out
end Go.Proofs.YthpodbhiopnnbaaDoor.ups

/- Guards: the contracts of the model's l10Known and Resistances. -/
namespace Go.Proofs.YthpodbhiopnnbaaDoor.ups
open Go.RowKit P2 words edges ints owns good adjs fns sets rets covs bags balls bitsI func lists times apps gridr grid trip minmax
set_option linter.unusedVariables false

set_option maxHeartbeats 2000000 in
set_option maxRecDepth 100000 in
theorem l10Known_any (n m : Nat) (all : Bool) (v : Value) (l : List Ed) (w : World) (h : Edges w v l) (hl : l.length ≤ 1048576) (hg : P2.Good (n : Int) l) (hn : n ≤ 8) (hm : m ≤ 8) :
    Calls Tryd.prog 56 #[.agg #[.int .i64 (n : Int), v], .int .i64 (m : Int), .bool all] w (RowI w ((setsK n m).map (resV n l all (setsK n m)))) := by
  obtain ⟨A, c, rfl, -⟩ := h.form
  have b0 : Below w.heap.size w (w.alloc (.cells #[.int .i64 (n : Int), .slice A l.length c] 29)) := (Below.refl _ _).alloc (Nat.le_refl _) _
  have g0 := Blk.new w 29 #[.int .i64 (n : Int), .slice A l.length c]
  obtain ⟨p0, p1, -, -⟩ := g0.two
  have HS := Lib.hid (fun (W : World) => l10Sets_any n m (.slice A l.length c) W hn hm)
  have hL : ∀ c ∈ setsK n m, c < 2 ^ n ∧ onesN c = m := fun c hc => (setsK_mem hn hm).1 hc
  have hLl := setsK_len hn hm
  have HT := Lib.hid (fun (t : Value) (us : List Value) (W : World) (hW : Below w.heap.size w W) (ht : ReadsG W t us (rowN (setsK n m))) => l10Table_any n m all (.slice A l.length c) t us (setsK n m) l W (h.below hW) hl ht hL hLl hg hn)
  have HR := Lib.hid (fun (t v : Value) (us vs : List Value) (W : World) (ht : ReadsG W t us (rowN (setsK n m))) (hv : ReadsGG W v vs (tblL n l all (setsK n m))) => l10Resist_any n m all v t us vs (setsK n m) l W ht hv hL hLl hn)
  have HB0 := Lib.hid b0
  have HG0 := Lib.hid g0
  clear h b0 g0 hg hL hLl
  generalize setsK n m = LK at *
  generalize hRV : LK.map (resV n l all LK) = RV at *
  have HRV := Lib.hid hRV
  clear hRV
  go_enter Tryd.func56, Tryd.ntmps56
  go_wp2_with fail
  refine (HS.out _).mono ?_
  rintro e w2 ⟨A2, c2, us, rfl, o2, b2⟩
  have HE2 := Lib.hid (btrans HB0.out b2)
  have HG2 := Lib.hid (HG0.out.below b2 HG0.out.lt)
  have HR2 := Lib.hid (gridl.readsG_of_own o2)
  clear p0 p1 o2 b2
  obtain ⟨p0, p1, -, -⟩ := HG2.out.two
  go_wp2_with fail
  refine (HT.out _ us w2 HE2.out HR2.out).mono ?_
  rintro e w3 ⟨A3, c3, vs, rfl, o3, b3⟩
  have HE3 := Lib.hid (btrans HE2.out b3)
  have HR3 := Lib.hid (HR2.out.below b3)
  have HO3 := Lib.hid o3.reads
  clear p0 p1 o3 b3
  go_wp2_with fail
  refine (HR.out _ _ us vs w3 HR3.out HO3.out).mono ?_
  rintro e w4 ⟨A4, c4, rfl, o4, b4⟩
  have HE4 := Lib.hid (btrans HE3.out b4)
  have HO4 := Lib.hid (own_base (B' := w.heap.size) o4 HE3.out.size)
  clear o4 b4
  go_wp2_with fail
  go_ret
  exact ⟨A4, c4, rfl, HO4.out, HE4.out⟩
set_option maxHeartbeats 2000000 in
set_option maxRecDepth 100000 in
theorem specRsv_any (s k : Int) (all : Bool) (v : Value) (l : List Ed) (w : World) (h : Edges w v l) (hl : l.length ≤ 1048576) (hs1 : -9223372036854775808 ≤ s) (hs2 : s ≤ 9223372036854775807) :
    Calls Tryd.prog 23 #[.agg #[.int .i64 s, v], .int .i64 k, .bool all] w (RetI w (GrdOk s l k) (rsvL s l all k)) := by
  obtain ⟨A, c, rfl, -⟩ := h.form
  have H := Lib.hid h
  have b0 : Below w.heap.size w (w.alloc (.cells #[.int .i64 s, .slice A l.length c] 29)) := (Below.refl _ _).alloc (Nat.le_refl _) _
  have g0 := Blk.new w 29 #[.int .i64 s, .slice A l.length c]
  obtain ⟨p0, p1, -, -⟩ := g0.two
  have HN := Lib.hid (l10Good_any s k _ l _ (h.below b0) hl hs1 hs2)
  have HB0 := Lib.hid b0
  have HG0 := Lib.hid g0
  clear h b0 g0
  by_cases hok : GrdOk s l k
  · rw [okG_yes hok] at HN
    have HOK := Lib.hid hok
    have h0 := hok.1.1
    have h8 := hok.1.2.1
    have hk0 := hok.2.1
    have hks := hok.2.2
    obtain ⟨n, rfl⟩ : ∃ n : Nat, s = (n : Int) := ⟨s.toNat, by omega⟩
    obtain ⟨m, rfl⟩ : ∃ m : Nat, k = (m : Int) := ⟨k.toNat, by omega⟩
    have HV : Hid (rsvL (n : Int) l all (m : Int) = (setsK n m).map (resV n l all (setsK n m))) := by show _ = _; unfold rsvL; rw [Int.toNat_natCast, Int.toNat_natCast]
    have hn : n ≤ 8 := by omega
    have hm : m ≤ 8 := by omega
    have HS := Lib.hid (fun (W : World) (hW : Below w.heap.size w W) => l10Known_any n m all (.slice A l.length c) l W (H.out.below hW) hl hok.1 hn hm)
    clear hok
    generalize hRV : (setsK n m).map (resV n l all (setsK n m)) = RV at *
    clear hRV
    go_enter Tryd.func23, Tryd.ntmps23
    go_wp2_with fail
    refine HN.out.mono ?_
    rintro e w1 ⟨rfl, b1⟩
    have HE1 := Lib.hid (btrans HB0.out b1)
    have HG1 := Lib.hid (HG0.out.below b1 HG0.out.lt)
    clear p0 p1 b1 HN HB0 HG0
    obtain ⟨p0, p1, -, -⟩ := HG1.out.two
    go_wp2_with fail
    refine (HS.out w1 HE1.out).mono ?_
    rintro e w2 ⟨A2, c2, rfl, o2, b2⟩
    have o4 := own_base (B' := w.heap.size) o2 HE1.out.size
    have e4 := btrans HE1.out b2
    clear o2 b2 p0 p1
    go_wp2_with fail
    go_ret2
    rw [HV.out]
    exact RetI.yes HOK.out o4 e4
  · rw [okG_no hok] at HN
    have HNO := Lib.hid hok
    clear hok
    go_enter Tryd.func23, Tryd.ntmps23
    go_wp2_with fail
    refine HN.out.mono ?_
    rintro e w1 ⟨rfl, b1⟩
    have HE1 := Lib.hid (btrans HB0.out b1)
    clear p0 p1 b1
    go_wp2_with fail
    go_ret2
    exact RetI.no HNO.out (own_base (own_new0 w1 3 1) HE1.out.size) (HE1.out.alloc HE1.out.size _)
theorem rsv_len (s k : Int) (l : List Ed) (all : Bool) : (inG (GrdOk s l k) (rsvL s l all k)).length ≤ 1048576 := by
  by_cases h : GrdOk s l k
  · rw [inG_yes h]
    unfold rsvL
    rw [List.length_map]
    have h8 := h.1.2.1
    have hks := h.2.2
    have := setsK_len (n := s.toNat) (k := k.toNat) (by omega) (by omega)
    omega
  · rw [inG_no h]; exact Nat.zero_le _
end Go.Proofs.YthpodbhiopnnbaaDoor.ups
