/- The contract of the program's resultsOf with the nodes of sets. -/
import Derived.Handy
import Derived.Test.YtdhbaegkogklgaaK04
import Derived.Test.YtdhbaegkogklgaaK11
import Derived.Test.YtdhbaegkogklgaaK10
import Derived.Deep.DeepCutAuto
import Derived.Deep.RegionHeld3
import Derived.Lib.SliceRun
import Derived.Deep.QuietTactic
import Derived.Test.YtdhbaegkogklgaaK13
import Derived.Maps.AppendAt
namespace Go.Proofs.Ytdhbaegkogklgaa.ups
open Go.RowKit P2 words edges ints owns good adjs fns sets rets covs bitsI func grid
set_option linter.unusedVariables false

/-- the lists of the nodes of sets -/
def rowN (L : List Nat) : List (List Int) := L.map ndN
theorem rowN_len (L : List Nat) : (rowN L).length = L.length := List.length_map _
theorem rowN_at {L : List Nat} {i c : Nat} (h : L[i]? = some c) : (rowN L)[i]? = some (ndN c) := by simp [rowN, h]
/-- so many rows are done -/
def rowT (L : List Nat) (k : Nat) : List (List Int) := rowN (L.take k) ++ List.replicate (L.length - k) []
theorem rowT_zero (L : List Nat) : rowT L 0 = List.replicate L.length [] := by simp [rowT, rowN]
theorem rowT_all (L : List Nat) : rowT L L.length = rowN L := by simp [rowT]
theorem rowT_len (L : List Nat) {k : Nat} (h : k ≤ L.length) : (rowT L k).length = L.length := by simp [rowT, rowN]; omega
theorem rowT_succ {L : List Nat} {k c : Nat} (h : L[k]? = some c) : (rowT L k).set k (ndN c) = rowT L (k + 1) := by
  have hk := (List.getElem?_eq_some_iff.1 h).1
  have hl : (rowN (L.take k)).length = k := by rw [rowN_len, List.length_take]; omega
  unfold rowT
  obtain ⟨m, hm⟩ : ∃ m, L.length - k = m + 1 := ⟨L.length - k - 1, by omega⟩
  rw [List.set_append, if_neg (by omega), hl, Nat.sub_self, hm, List.replicate_succ, List.set_cons_zero, List.take_add_one, h, show L.length - (k + 1) = m from by omega]
  unfold rowN
  rw [List.map_append, List.append_assoc]
  rfl
set_option maxHeartbeats 4000000 in
set_option maxRecDepth 100000 in
theorem resultsNd_any (u : Value) (L : List Nat) (w : World) (hu : Nums w u L) (hL : ∀ c ∈ L, c < 256) (hl : L.length ≤ 1048576) :
    Calls Try.prog 46 #[u, .func (.func 47) #[] #[]] w fun e w' => ∃ A c us, e = .returned (.slice A L.length c) ∧ OwnG w' w.heap.size (.slice A (rowN L).length c) us (rowN L) ∧ Below w.heap.size w w' := by
  obtain ⟨A, c, rfl, hc⟩ := hu.form
  have HU := Lib.hid hu
  have hent : ∀ (args : Array Value) (W : World), (callFunc 47 args).run Try.prog W = .ok (.enter 47 args) W := fun _ _ => by kernel_rfl
  have HM := Lib.hid (OwnG.made w L.length (by unfold maxLen; omega))
  have HB2 := Lib.hid ((Below.refl w.heap.size w).alloc (Nat.le_refl _) (.cells (madeCells #[.slice none 0 0] (L.length * 1)) 37))
  have HCL := Lib.hid hL
  clear hu hc hL
  obtain ⟨i1, hi1, hy0, hy1, hy2⟩ := info_parts infoRow
  have hmk := fun (W : World) => run_make_rowN (P := Try.prog) 25 37 i1 (.slice none 0 0) Try.underlying25 hi1 hy0 .i64 .i64 L.length L.length (Nat.le_refl _) (by rw [hy2]; omega) (by omega) W
  rw [hy1] at hmk
  rw [Nat.mul_one] at HM HB2
  go_enter Try.func46, Try.ntmps46
  go_wp2_with fail
  go_loopg [6, 7, 13] L.length (fun g _ _ i wr => ∃ (k : Nat) (us : List Value), k + g = L.length ∧ i = .int .i64 (k : Int) ∧ OwnG wr w.heap.size (.slice (some ⟨w.heap.size, 0, none⟩) L.length L.length) us (rowT L k) ∧ Below w.heap.size w wr)
  case atStart => exact ⟨0, _, by omega, rfl, by rw [rowT_zero]; exact HM.out, HB2.out⟩
  case round =>
    clear HM HB2 hmk
    obtain ⟨k, us, hkg, rfl, hG, hB⟩ := hrel
    cases gk with
    | zero =>
      obtain rfl : k = L.length := by omega
      rw [rowT_all] at hG
      have HR := Lib.hid hG
      have HB := Lib.hid hB
      clear hG hB
      go_wp2_with fail
      go_ret
      exact ⟨_, _, us, rfl, by rw [rowN_len]; exact HR.out, HB.out⟩
    | succ g2 =>
      have hlt : k < L.length := by omega
      have hlt' : (k : Int) < (L.length : Int) := by omega
      obtain ⟨x, hx⟩ : ∃ x, L[k]? = some x := ⟨_, List.getElem?_eq_getElem hlt⟩
      have hx8 := HCL.out x (List.mem_of_getElem? hx)
      obtain ⟨_, _, hf2, hcc⟩ := (show Nums wr (.slice A L.length c) L from HU.out.below hB).form
      cases hf2
      obtain ⟨g5, o5, rfl, c5⟩ := hcc k x hx
      have HD := Lib.hid (nodes_any x wr (by omega))
      rw [show nw (bitB x) 8 = ndN x from rfl] at HD
      have HG := Lib.hid hG
      have HB := Lib.hid hB
      have HX := Lib.hid hx
      clear hG hB hx hcc
      go_wp2_with fail
      refine HD.out.mono ?_
      rintro e w3 ⟨A3, c3, rfl, o3, b3⟩
      have hG3 := HG.out.below b3
      have hrl := rowT_len L (k := k) (by omega)
      have h1 := hG3.1
      rw [hrl] at h1
      have hul := hG3.len
      rw [hrl] at hul
      obtain ⟨u0, hu0⟩ : ∃ u, us[k]? = some u := ⟨_, List.getElem?_eq_getElem (by omega)⟩
      have f0 := h1.cellAt k (by omega)
      rw [hu0] at f0
      have z0 := h1.frozenAt k
      have HS : Hid (OwnG (w3.setCell ⟨w.heap.size, k, none⟩ (.slice A3 (ndN x).length c3)) w.heap.size (.slice (some ⟨w.heap.size, 0, none⟩) L.length L.length) (us.set k (.slice A3 (ndN x).length c3)) (rowT L (k + 1))) := by
        have h9 : OwnG w3 w.heap.size (.slice (some ⟨w.heap.size, 0, none⟩) (rowT L k).length L.length) us (rowT L k) := by rw [hrl]; exact hG3
        have hfr := OwnG.fresh HG.out o3
        have := OwnG.store h9 (by rw [hrl]; exact hlt) (own_base o3 HB.out.size) (fun i x b _ hx hb => hfr i x b hx hb)
        rw [rowT_succ HX.out, hrl] at this
        exact this
      have HB3 := Lib.hid (btrans HB.out b3)
      clear hG3 h1 hrl hul hu0 c5
      go_wp2_with fail
      go_roundg g2
      case measure => omega
      case rel => exact ⟨k + 1, _, by omega, by go_num, HS.out, HB3.out.setCell (Nat.le_refl _) _⟩
end Go.Proofs.Ytdhbaegkogklgaa.ups

/- slices.DeleteFunc over a row of sets of the call's own. -/
namespace Go.Proofs.Ytdhbaegkogklgaa.ups
open Go.RowKit P2 words edges ints good adjs fns sets rets covs bitsI func
set_option linter.unusedVariables false

/-- a function value that answers for the elements of a list of words, in every world of a kind -/
structure FnK (K : World → Prop) (f : FuncId) (caps : Array Value) (xs : List Nat) (p : Nat → Bool) : Prop where
  enter : ∀ (args : Array Value) (W : World), (callFunc f args).run Try.prog W = .ok (.enter f args) W
  call : ∀ W, K W → ∀ x ∈ xs, Calls Try.prog f (#[.int .u64 (x : Int)] ++ caps) W fun e W' => e = .returned (.bool (p x)) ∧ Below W.heap.size W W'
/-- what stands wherever a row's block is written to -/
structure Kind (K : World → Prop) (v : Value) : Prop where
  go : ∀ W W', K W → Below W.heap.size W W' → K W'
  set : ∀ g, v.ownBlock = some g → ∀ W j u, K W → K (W.setCell ⟨g, j, none⟩ u)
theorem own_cut {w : World} {B g n c i : Nat} {t : TypeId} {xs : List Value} (h : w.ownsRow B t 1 (.slice (some ⟨g, 0, none⟩) n c) n xs) (hi : i ≤ n) : w.ownsRow B t 1 (.slice (some ⟨g, 0, none⟩) i c) i (xs.take i) := by
  refine ⟨by rw [List.length_take, h.1]; omega, ?_⟩
  rcases h.2 with ⟨h', _⟩ | ⟨g', cap', cur, h', hb, hg, hnc, hcm, hcs, htake⟩
  · simp at h'
  · simp only [Value.slice.injEq, Option.some.injEq, Addr.mk.injEq, and_true, true_and] at h'
    obtain ⟨rfl, rfl⟩ := h'
    exact .inr ⟨g, c, cur, rfl, hb, hg, by omega, hcm, hcs, by rw [← htake, List.take_take]; congr 1; omega⟩
theorem own_setCells {B g n c : Nat} {t : TypeId} : ∀ (vs : List Value) (o : Nat) (w : World) (xs : List Value), w.ownsRow B t 1 (.slice (some ⟨g, 0, none⟩) n c) n xs → ∃ ys, (w.setCells g o vs).ownsRow B t 1 (.slice (some ⟨g, 0, none⟩) n c) n ys ∧ ys.take o = xs.take o
  | [], o, w, xs, h => ⟨xs, h, rfl⟩
  | v :: vs, o, w, xs, h => by
    obtain ⟨ys, h1, h2⟩ := own_setCells vs (o + 1) _ _ (h.stored o v).1
    refine ⟨ys, h1, ?_⟩
    have := congrArg (List.take o) h2
    rw [List.take_take, List.take_take, Nat.min_eq_left (by omega), List.take_set, List.set_eq_of_length_le (by rw [List.length_take]; omega)] at this
    exact this
theorem kind_setCells {K : World → Prop} {g : Nat} (hK : ∀ W j u, K W → K (W.setCell ⟨g, j, none⟩ u)) : ∀ (vs : List Value) (o : Nat) (w : World), K w → K (w.setCells g o vs)
  | [], o, w, h => h
  | v :: vs, o, w, h => kind_setCells hK vs (o + 1) _ (hK w o v h)
/-- the row while what is struck is written over: what is kept of the first j, anything, the rest -/
def DelR (p : Nat → Bool) (xs : List Nat) (i j : Nat) (L : List Nat) : Prop := L.length = xs.length ∧ i ≤ j ∧ L.take i = (xs.take j).filter (fun x => !p x) ∧ L.drop j = xs.drop j
theorem DelR.at_ {p : Nat → Bool} {xs : List Nat} {i j : Nat} {L : List Nat} (h : DelR p xs i j L) (hj : j < xs.length) : L[j]? = xs[j]? := by
  have := congrArg (fun z : List Nat => z[0]?) h.2.2.2
  simpa using this
theorem DelR.skip {p : Nat → Bool} {xs : List Nat} {i j x : Nat} {L : List Nat} (h : DelR p xs i j L) (hx : xs[j]? = some x) (hp : p x = true) : DelR p xs i (j + 1) L :=
  ⟨h.1, by have := h.2.1; omega, by rw [h.2.2.1, List.take_add_one, hx, List.filter_append]; simp [hp], by rw [← List.drop_drop, h.2.2.2, List.drop_drop]⟩
theorem DelR.keep {p : Nat → Bool} {xs : List Nat} {i j x : Nat} {L : List Nat} (h : DelR p xs i j L) (hx : xs[j]? = some x) (hp : p x = false) : DelR p xs (i + 1) (j + 1) (L.set i x) := by
  obtain ⟨h1, h2, h3, h4⟩ := h
  have hj := (List.getElem?_eq_some_iff.1 hx).1
  refine ⟨by simpa using h1, by omega, ?_, ?_⟩
  · have hi : i < L.length := by omega
    rw [show (xs.take (j + 1)) = xs.take j ++ [x] from by rw [List.take_add_one, hx]; rfl, List.filter_append, List.take_add_one, List.getElem?_set_self hi, List.take_set, List.set_eq_of_length_le (by rw [List.length_take]; omega), h3]
    simp [hp]
  · rw [List.drop_set_of_lt (by omega), ← List.drop_drop, h4, List.drop_drop]
theorem DelR.done {p : Nat → Bool} {xs : List Nat} {i j : Nat} {L : List Nat} (h : DelR p xs i j L) (hj : xs.length ≤ j) : L.take i = xs.filter (fun x => !p x) := by
  rw [h.2.2.1, List.take_of_length_le hj]
theorem DelR.first {p : Nat → Bool} {xs : List Nat} {i x : Nat} (hx : xs[i]? = some x) (hp : p x = true) (hf : ∀ j z, j < i → xs[j]? = some z → p z = false) : DelR p xs i (i + 1) xs :=
  ⟨rfl, by omega, by
    rw [List.take_add_one, hx, List.filter_append]
    have : (xs.take i).filter (fun x => !p x) = xs.take i := by
      rw [List.filter_eq_self]
      intro a ha
      obtain ⟨j, hj⟩ := List.getElem?_of_mem ha
      have hji : j < i := by have := (List.getElem?_eq_some_iff.1 hj).1; rw [List.length_take] at this; omega
      rw [List.getElem?_take_of_lt hji] at hj
      rw [hf j a hji hj]; rfl
    rw [this]; simp [hp], rfl⟩
theorem idxF_case {p : Nat → Bool} (xs : List Nat) : (idxF p xs = -1 ∧ xs.filter (fun x => !p x) = xs) ∨ ∃ i x, idxF p xs = ((i : Nat) : Int) ∧ xs[i]? = some x ∧ p x = true ∧ ∀ j z, j < i → xs[j]? = some z → p z = false := by
  by_cases h : ∃ x ∈ xs, p x = true
  · obtain ⟨x, hx, hp⟩ := h
    exact .inr (idxF_some hx hp)
  · left
    have hno : ∀ x ∈ xs, p x = false := fun x hx => by
      cases hp : p x
      · rfl
      · exact absurd ⟨x, hx, hp⟩ h
    refine ⟨?_, List.filter_eq_self.2 fun x hx => by rw [hno x hx]; rfl⟩
    unfold idxF
    rw [List.findIdx?_eq_none_iff.2 hno]
set_option maxHeartbeats 8000000 in
set_option maxRecDepth 100000 in
theorem deleteFuncU_own (B : Nat) (v : Value) (xs : List Nat) (f : FuncId) (caps : Array Value) (p : Nat → Bool) (K : World → Prop) (w : World) (ho : w.ownsRow B 62 1 v xs.length (cellsU xs)) (hxl : xs.length ≤ 1048576) (hK : Kind K v) (h : FnK K f caps xs p) (hw : K w) :
    Calls Try.prog 40 #[v, .func (.func f) #[] caps] w fun e w' => ∃ A c, e = .returned (.slice A (xs.filter fun x => !p x).length c) ∧ w'.ownsRow B 62 1 (.slice A (xs.filter fun x => !p x).length c) (xs.filter fun x => !p x).length (cellsU (xs.filter fun x => !p x)) ∧ (Value.slice A (xs.filter fun x => !p x).length c).ownBlock = v.ownBlock ∧ K w' := by
  obtain ⟨A, c, rfl⟩ := own_form ho
  have hent := h.enter
  have HIX := Lib.hid (indexFuncU_any (.slice A xs.length c) xs f caps p w (Reads.of_own ho) hxl { enter := h.enter, call := fun W hW x hx => h.call W (hK.go w W hw hW) x hx })
  have HF := Lib.hid h.call
  have HGO := Lib.hid hK.go
  rcases idxF_case (p := p) xs with ⟨hi, hfe⟩ | ⟨i0, x0, hi, hx0, hp0, hf0⟩
  · rw [hi] at HIX
    rw [hfe]
    have HO := Lib.hid ho
    have HW := Lib.hid hw
    clear h hK hw ho hi hfe
    go_enter Try.func40, Try.ntmps40
    go_wp2_with fail
    refine HIX.out.mono ?_
    rintro e w1 ⟨rfl, b1⟩
    go_wp2_with fail
    go_ret
    exact ⟨A, c, rfl, own_below HO.out b1, rfl, HGO.out _ _ HW.out b1⟩
  · rw [hi] at HIX
    have hi0 := (List.getElem?_eq_some_iff.1 hx0).1
    obtain ⟨g, rfl, hnc⟩ : ∃ g, A = some ⟨g, 0, none⟩ ∧ xs.length ≤ c := by
      rcases ho.2 with ⟨_, h2⟩ | ⟨g, cap, cur, hv, _, _, hnc, _⟩
      · omega
      · cases hv; exact ⟨g, rfl, hnc⟩
    have HST := Lib.hid (hK.set g rfl)
    have HO := Lib.hid ho
    have HW := Lib.hid hw
    have HD0 := Lib.hid (DelR.first hx0 hp0 hf0)
    have hne1 : ((i0 : Int) == -1) = false := beq_eq_false_iff_ne.2 (by omega)
    clear h hK hw ho hi hx0 hp0 hf0
    go_enter Try.func40, Try.ntmps40
    go_wp2_with fail
    refine HIX.out.mono ?_
    rintro e w1 ⟨rfl, b1⟩
    have HO1 := Lib.hid (own_below HO.out b1)
    have HW1 := Lib.hid (HGO.out _ _ HW.out b1)
    clear b1 HO HW HIX
    go_wp2_with fail
    go_loopg [5, 6, 7] (xs.length - (i0 + 1)) (fun gg s5 s6 s7 wr => ∃ (i j : Nat) (L : List Nat), s5 = .int .i64 (i : Int) ∧ s6 = .int .i64 (j : Int) ∧ j + gg = xs.length ∧ i < j ∧ Hid (DelR p xs i j L) ∧ wr.ownsRow B 62 1 (.slice (some ⟨g, 0, none⟩) xs.length c) xs.length (cellsU L) ∧ Hid (K wr))
    case atStart => exact ⟨i0, i0 + 1, xs, rfl, by go_num, by omega, by omega, HD0, HO1.out, HW1⟩
    case round =>
      clear HD0 HO1 HW1
      obtain ⟨i, j, L, rfl, rfl, hjg, hij, hdl, hrow, hkw⟩ := hrel
      have hLl := hdl.out.1
      cases gk with
      | zero =>
        obtain rfl : j = xs.length := by omega
        have hin : i < xs.length := hij
        have hci : ¬ c = i := by omega
        have hci2 : (c == i) = false := beq_eq_false_iff_ne.2 hci
        have HFI := Lib.hid (hdl.out.done (Nat.le_refl _))
        have hcl : ∀ ty, (Builtin.clear_ #[57] ty #[.slice (some ⟨g, i, none⟩) (xs.length - i) (c - i)]).run Try.prog wr = .ok (.tuple #[]) (wr.setCells g i (List.replicate (xs.length - i) (.int .u64 0))) :=
          fun ty => Lib.run_clear_slice wr _ 62 ty (.int .u64 0) Try.underlying57 (by intro w; rfl) rfl rfl g i _ _ (by omega) (fun k hk => by rw [hrow.cellAt (i + k) (by omega)]; rw [show (cellsU L)[i + k]? = some ((cellsU L)[i + k]'(by rw [cellsU_len]; omega)) from List.getElem?_eq_getElem _]; rfl) (fun k hk => hrow.frozenAt _)
        obtain ⟨ys, hown, hys⟩ := own_setCells (List.replicate (xs.length - i) (.int .u64 0)) i wr (cellsU L) hrow
        have hcut := own_cut hown (Nat.le_of_lt hin)
        rw [hys, show (cellsU L).take i = cellsU (L.take i) from (List.map_take).symm, HFI.out] at hcut
        have HKN := Lib.hid (kind_setCells HST.out (List.replicate (xs.length - i) (.int .u64 0)) i wr hkw.out)
        have HIL : Hid ((xs.filter fun x => !p x).length = i) := by
          show _ = _
          rw [← HFI.out, List.length_take]; omega
        have HCUT := Lib.hid hcut
        clear hrow hdl hLl hown hys hcut
        go_wp2_with fail
        go_ret
        rw [HIL.out]
        exact ⟨_, c, rfl, HCUT.out, rfl, HKN.out⟩
      | succ g2 =>
        have hlt : j < xs.length := by omega
        have hlt' : (j : Int) < (xs.length : Int) := by omega
        obtain ⟨x, hx⟩ : ∃ x, xs[j]? = some x := ⟨_, List.getElem?_eq_getElem hlt⟩
        have f0 := hrow.cellAt j (by omega)
        rw [cellsU_at ((hdl.out.at_ hlt).trans hx)] at f0
        have HC := Lib.hid (HF.out wr hkw.out x (List.mem_of_getElem? hx))
        have HROW := Lib.hid hrow
        cases hp : p x with
        | true =>
          have HN := Lib.hid (hdl.out.skip hx hp)
          rw [hp] at HC
          clear hx hp hrow hLl
          go_wp2_with fail
          refine HC.out.mono ?_
          rintro e w2 ⟨rfl, b2⟩
          have HO2 := Lib.hid (own_below HROW.out b2)
          have HW2 := Lib.hid (HGO.out _ _ hkw.out b2)
          clear b2 f0
          go_wp2_with fail
          go_roundg g2
          case measure => omega
          case rel => exact ⟨i, j + 1, L, rfl, by go_num, by omega, by omega, HN, HO2.out, HW2⟩
        | false =>
          have HN := Lib.hid (hdl.out.keep hx hp)
          rw [hp] at HC
          have hii : i < xs.length := by omega
          have hii' : (i : Int) < (xs.length : Int) := by omega
          obtain ⟨y, hy⟩ : ∃ y, L[i]? = some y := ⟨_, List.getElem?_eq_getElem (by omega)⟩
          have HY := Lib.hid (cellsU_at hy)
          clear hx hp hy hrow hLl
          go_wp2_with fail
          refine HC.out.mono ?_
          rintro e w2 ⟨rfl, b2⟩
          have hrow2 := own_below HROW.out b2
          have HW2 := Lib.hid (HGO.out _ _ hkw.out b2)
          have f1 := hrow2.cellAt i (by omega)
          rw [HY.out] at f1
          have z1 := hrow2.frozenAt i
          have hst := (hrow2.stored i (.int .u64 (x : Int))).1
          rw [cellsU_set] at hst
          have HST2 := Lib.hid hst
          have HK2 := Lib.hid (HST.out w2 i (.int .u64 (x : Int)) HW2.out)
          clear b2 f0 hst hrow2
          go_wp2_with fail
          go_roundg g2
          case measure => omega
          case rel => exact ⟨i + 1, j + 1, L.set i x, by go_num, by go_num, by omega, by omega, HN, HST2.out, HK2⟩
end Go.Proofs.Ytdhbaegkogklgaa.ups

/- All lists of so many elements of a list, in order: mathematics. -/
namespace Go.Proofs.Ytdhbaegkogklgaa.ups
open Go.RowKit P2 words edges ints good adjs fns sets rets covs bitsI
set_option linter.unusedVariables false

/-- the lists of d elements of a list, in order -/
def chL : List Int → Nat → List (List Int)
  | _, 0 => [[]]
  | [], _ + 1 => []
  | x :: r, d + 1 => (chL r d).map (x :: ·) ++ chL r (d + 1)
theorem chL_len : ∀ (xs : List Int) (d : Nat), (chL xs d).length ≤ 2 ^ xs.length
  | xs, 0 => by unfold chL; exact Nat.one_le_two_pow
  | [], _ + 1 => by unfold chL; simp
  | x :: r, d + 1 => by
    unfold chL
    rw [List.length_append, List.length_map, List.length_cons, Nat.pow_succ]
    have := chL_len r d
    have := chL_len r (d + 1)
    omega
theorem chL_row : ∀ (xs : List Int) (d : Nat) (r : List Int), r ∈ chL xs d → r.length = d
  | xs, 0, r, h => by unfold chL at h; simp at h; subst h; rfl
  | [], _ + 1, r, h => by unfold chL at h; simp at h
  | x :: xs, d + 1, r, h => by
    unfold chL at h
    rcases List.mem_append.1 h with h | h
    · obtain ⟨q, hq, rfl⟩ := List.mem_map.1 h
      rw [List.length_cons, chL_row xs d q hq]
    · exact chL_row xs (d + 1) r h
theorem chL_short : ∀ (xs : List Int) (d : Nat), xs.length < d → chL xs d = []
  | xs, 0, h => by omega
  | [], _ + 1, h => by unfold chL; rfl
  | x :: xs, d + 1, h => by
    rw [List.length_cons] at h
    unfold chL
    rw [chL_short xs d (by omega), chL_short xs (d + 1) (by omega)]; rfl
theorem chL_drop {xs : List Int} {i : Nat} {x : Int} (h : xs[i]? = some x) (d : Nat) : chL (xs.drop i) (d + 1) = (chL (xs.drop (i + 1)) d).map (x :: ·) ++ chL (xs.drop (i + 1)) (d + 1) := by
  obtain ⟨h1, h2⟩ := List.getElem?_eq_some_iff.1 h
  rw [List.drop_eq_getElem_cons h1, h2]
  rfl
theorem take_cons {Ls : List (List Int)} {j : Nat} {L : List Int} (x : Int) (h : Ls[j]? = some L) : (Ls.take (j + 1)).map (x :: ·) = (Ls.take j).map (x :: ·) ++ [x :: L] := by
  rw [List.take_add_one, h, List.map_append]; rfl
/-- the sets of k of n nodes, in order -/
def setsK (n k : Nat) : List Nat := (setsN n k).filter (fun x => !decide (onesN x < k))
theorem chL_sets : ∀ n : Fin 9, ∀ k : Fin 9, chL (allN n.1) k.1 = rowN (setsK n.1 k.1) := by decide +kernel
theorem setsK_mem {n k c : Nat} (hn : n ≤ 8) (hk : k ≤ 8) : c ∈ setsK n k ↔ c < 2 ^ n ∧ onesN c = k := by
  unfold setsK
  rw [List.mem_filter, mem_sets hn hk]
  simp
  omega
theorem setsK_len {n k : Nat} (hn : n ≤ 8) (hk : k ≤ 8) : (setsK n k).length ≤ 256 := Nat.le_trans (List.length_filter_le _ _) (sets_len hn hk)
end Go.Proofs.Ytdhbaegkogklgaa.ups

/- The contract of the program's setsOf. -/
namespace Go.Proofs.Ytdhbaegkogklgaa.ups
open Go.RowKit P2 words edges ints owns good adjs fns sets rets covs bitsI func
set_option linter.unusedVariables false

set_option maxHeartbeats 1000000 in
set_option maxRecDepth 100000 in
theorem setsOfClo_any (k d b1 : Nat) (w : World) (h1 : w.cell? ⟨b1, 0, none⟩ = some (.int .i64 (k : Int))) (hd : d < 256) :
    Calls Try.prog 78 #[.int .u64 (d : Int), .pointer (some ⟨b1, 0, none⟩)] w fun e w' => e = .returned (.bool (decide (onesN d < k))) ∧ Below w.heap.size w w' := by
  have HCT := Lib.hid (fun (nq : Nat) => count_any d (w.drewN nq) hd)
  have HV : Hid (decide ((onesN d : Int) < (k : Int)) = decide (onesN d < k)) := by
    show _ = _
    rw [decide_eq_decide]; omega
  go_enter Try.func78, Try.ntmps78
  go_wp2_with fail
  go_quiet (first | (go_at_call 45; exact quiet_left (HCT.out _)))
  go_wp2_with fail
  go_ret
  exact ⟨ret_bool (by first | rfl | exact HV.out), below_drewN (Below.refl _ _) _⟩
set_option maxHeartbeats 2000000 in
set_option maxRecDepth 100000 in
theorem setsOf_own (n k : Nat) (w : World) (hn : n ≤ 8) (hk : k ≤ 8) :
    Calls Try.prog 41 #[.int .i64 (n : Int), .int .i64 (k : Int)] w fun e w' => ∃ A c, e = .returned (.slice A (setsK n k).length c) ∧ w'.ownsRow w.heap.size 62 1 (.slice A (setsK n k).length c) (setsK n k).length (cellsU (setsK n k)) ∧ Below w.heap.size w w' := by
  have hmf : ∀ (fn : Fn) (first cap : Array Value) (w : World), (Instr.makeFunc fn first cap).run Try.prog w = .ok (.func fn first cap) w := fun _ _ _ _ => rfl
  have b0 : Below w.heap.size w (w.alloc (.cells #[.int .i64 (k : Int)] 3)) := (Below.refl _ _).alloc (Nat.le_refl _) _
  have g0 := Blk.new w 3 #[.int .i64 (k : Int)]
  have p0 := g0.cell 0
  have HSU := Lib.hid (setsUpTo_own n k (w.alloc (.cells #[.int .i64 (k : Int)] 3)) hn hk)
  have HB0 := Lib.hid b0
  have HG0 := Lib.hid g0
  have hsl := sets_len hn hk
  have HM8 : Hid (∀ c ∈ setsN n k, c < 256) := fun c hc => Nat.lt_of_lt_of_le ((mem_sets hn hk).1 hc).1 (pow_le hn)
  have hz1 : (w.alloc (.cells #[.int .i64 (k : Int)] 3)).heap.size = w.heap.size + 1 := World.size_alloc _ _
  clear b0 g0
  have HZ1 := Lib.hid hz1
  clear hz1
  go_enter Try.func41, Try.ntmps41
  go_wp2_with fail
  refine HSU.out.mono ?_
  rintro e w2 ⟨A2, c2, rfl, o2, b2⟩
  have hg2 := HG0.out.below b2 HG0.out.lt
  have HDEL := Lib.hid (deleteFuncU_own w.heap.size (.slice A2 (setsN n k).length c2) (setsN n k) 78 #[.pointer (some ⟨w.heap.size, 0, none⟩)] (fun x => decide (onesN x < k)) (fun W => Below (w.heap.size + 1) w2 W ∧ w2.heap.size ≤ W.heap.size) w2 (own_base o2 (by rw [HZ1.out]; omega)) (by omega)
    { go := fun W W' h1 h2 => ⟨h1.1.trans (h2.mono (by have := b2.size; rw [HZ1.out] at this; have := h1.2; omega)), Nat.le_trans h1.2 h2.size⟩
      set := fun g hg W j u h => ⟨h.1.setCell (p := ⟨g, j, none⟩) (by have := (o2.lt g hg).1; rw [HZ1.out] at this; exact this) u, by simpa using h.2⟩ }
    { enter := fun _ _ => by kernel_rfl
      call := fun W hW x hx => setsOfClo_any k x w.heap.size W ((hW.1.cell (p := ⟨w.heap.size, 0, none⟩) (Nat.lt_succ_self _)).trans (hg2.cell 0)) (HM8.out x hx) } ⟨Below.refl _ _, Nat.le_refl _⟩)
  have hb2 := btrans HB0.out b2
  have HB2 := Lib.hid hb2
  have p1 := hg2.cell 0
  clear hb2 o2 b2 hg2 p0
  go_wp2_with fail
  refine HDEL.out.mono ?_
  rintro e w3 ⟨A3, c3, rfl, o3, -, hk3⟩
  go_wp2_with fail
  go_ret
  exact ⟨A3, c3, rfl, o3, HB2.out.trans (hk3.1.mono (by omega))⟩
end Go.Proofs.Ytdhbaegkogklgaa.ups

/- Guards: families of clique covers: mathematics. -/
namespace Go.Proofs.Ytdhbaegkogklgaa.ups
open Go.RowKit P2 words edges ints good adjs fns sets rets covs bitsI bags costs reach
set_option linter.unusedVariables false

/-- a set has just one node of each list -/
def cfB (q : List (List Int)) (c : Nat) : Bool := q.all fun xs => onesN (codeL xs &&& c) == 1
def cfK (n : Nat) (q : List (List Int)) : List Nat := (setsK n q.length).filter (cfB q)
def cfN (s : Int) (q : List (List Int)) : List Nat := cfK s.toNat q
theorem cv_count {n : Nat} {l : List Ed} {q : List (List Int)} (hn : n ≤ 8) : ∀ {k : Nat}, k ≤ q.length → CvK n l q k → k ≤ onesN (cvN q k)
  | 0, _, _ => Nat.zero_le _
  | k + 1, hk, h => by
    obtain ⟨xs, hx⟩ : ∃ xs, q[k]? = some xs := ⟨_, List.getElem?_eq_getElem (by omega)⟩
    have h1 := cv_count hn (k := k) (by omega) (fun i ys hi hy => h i ys (by omega) hy)
    have h2 := h k xs (by omega) hx
    rw [cvN_succ hx, ones_or (by rw [Nat.and_comm]; exact h2.2.1), ← set_ones hn h2.1.1]
    have : 0 < xs.length := List.length_pos_iff.2 h2.1.2
    omega
theorem cv_len {n : Nat} {l : List Ed} {q : List (List Int)} (hn : n ≤ 8) (h : CvP n l q) : q.length ≤ 8 := by
  have h1 := cv_count hn (Nat.le_refl _) h.1
  have h2 : onesN (cvN q q.length) ≤ 8 := nw_len _ _
  omega
theorem cv_set {n : Nat} {l : List Ed} {q : List (List Int)} (h : CvP n l q) {k : Nat} {xs : List Int} (hx : q[k]? = some xs) : SetOk (n : Int) l xs := (h.1 k xs (List.getElem?_eq_some_iff.1 hx).1 hx).1.1
theorem cfB_any (q : List (List Int)) (c : Nat) : (q.map codeL).any (fun d => !(onesN (d &&& c) == 1)) = !cfB q c := by
  unfold cfB
  rw [List.any_map, List.not_all_eq_any_not]
  rfl
/-- how many of the first k nodes of a list a set has -/
def hitN (c : Nat) (xs : List Int) (k : Nat) : Nat := (xs.take k).countP fun x => c.testBit x.toNat
theorem hit_zero (c : Nat) (xs : List Int) : hitN c xs 0 = 0 := rfl
theorem hit_succ {c : Nat} {xs : List Int} {k : Nat} {x : Int} (h : xs[k]? = some x) : hitN c xs (k + 1) = hitN c xs k + (if c.testBit x.toNat = true then 1 else 0) := by
  unfold hitN
  rw [List.take_add_one, h, List.countP_append]
  show _ + [x].countP _ = _
  rw [List.countP_singleton]
theorem hit_le (c : Nat) (xs : List Int) (k : Nat) : hitN c xs k ≤ xs.length := Nat.le_trans List.countP_le_length (by rw [List.length_take]; omega)
theorem hit_all {n c : Nat} {l : List Ed} {xs : List Int} (hn : n ≤ 8) (h : SetOk (n : Int) l xs) : hitN c xs xs.length = onesN (codeL xs &&& c) := by
  have h1 : xs = nw (bitB (codeL xs)) n := by
    refine asc_ext h.2.2 (nw_asc _ _) fun x => ?_
    rw [mem_nw]
    constructor
    · intro hx
      have := h.2.1 x hx
      refine ⟨x.toNat, by omega, ?_, by omega⟩
      unfold bitB
      rw [code_bit (fun z hz => (h.2.1 z hz).1), Int.toNat_of_nonneg this.1, decide_eq_true hx]
    · rintro ⟨j, hj, hp, rfl⟩
      unfold bitB at hp
      rw [code_bit (fun z hz => (h.2.1 z hz).1)] at hp
      exact of_decide_eq_true hp
  have h2 : codeL xs &&& c < 2 ^ n := Nat.lt_of_le_of_lt Nat.and_le_left (code_lt (m := n) h.2.1)
  unfold hitN
  rw [List.take_length, ← nd_len, ← nd_bits hn h2]
  generalize codeL xs = a at h1 h2 ⊢
  rw [h1]
  unfold nw
  rw [List.length_map, List.countP_map, List.countP_eq_length_filter, List.filter_filter]
  congr 1
  apply List.filter_congr
  intro x _
  unfold bitB
  rw [Nat.testBit_and]
  simp [Bool.and_comm]
/-- the lists up to the k-th one are hit just once -/
def oneB (q : List (List Int)) (c k : Nat) : Bool := (q.take k).all fun xs => onesN (codeL xs &&& c) == 1
theorem oneB_zero (q : List (List Int)) (c : Nat) : oneB q c 0 = true := rfl
theorem oneB_succ {q : List (List Int)} {c k : Nat} {xs : List Int} (h : q[k]? = some xs) : oneB q c (k + 1) = (oneB q c k && (onesN (codeL xs &&& c) == 1)) := by
  unfold oneB
  rw [List.take_add_one, h, List.all_append]; simp
theorem oneB_all (q : List (List Int)) (c : Nat) : oneB q c q.length = cfB q c := by unfold oneB cfB; rw [List.take_length]
/-- the sets among the first k that are kept -/
def pfN (p : Nat → Bool) (L : List Nat) (k : Nat) : List Nat := (L.take k).filter p
theorem pfN_yes {p : Nat → Bool} {L : List Nat} {k a : Nat} (h : L[k]? = some a) (hp : p a = true) : pfN p L (k + 1) = pfN p L k ++ [a] := by
  unfold pfN
  rw [List.take_add_one, h, List.filter_append]; simp [hp]
theorem pfN_no {p : Nat → Bool} {L : List Nat} {k a : Nat} (h : L[k]? = some a) (hp : p a = false) : pfN p L (k + 1) = pfN p L k := by
  unfold pfN
  rw [List.take_add_one, h, List.filter_append]; simp [hp]
theorem pfN_len (p : Nat → Bool) (L : List Nat) (k : Nat) : (pfN p L k).length ≤ L.length := Nat.le_trans (List.length_filter_le _ _) (by rw [List.length_take]; omega)
theorem pfN_all (p : Nat → Bool) (L : List Nat) : pfN p L L.length = L.filter p := by unfold pfN; rw [List.take_length]
end Go.Proofs.Ytdhbaegkogklgaa.ups

/- Clique covers: the contracts of the program's coverOf and IsCliqueCover. -/
namespace Go.Proofs.Ytdhbaegkogklgaa.ups
open Go.RowKit P2 words edges ints owns good adjs fns sets rets covs bags bitsI func costs gridr
set_option linter.unusedVariables false

theorem beq_castC (a b : Nat) : (((a : Nat) : Int) == ((b : Nat) : Int)) = (a == b) := by
  rw [Bool.eq_iff_iff, beq_iff_eq, beq_iff_eq]; omega
/-- what coverOf returns: the cliques and true, or false -/
def RetCv (w : World) (s : Int) (l : List Ed) (q : List (List Int)) (e : Ending) (w' : World) : Prop :=
  ∃ A N c, e = .returned (.tuple #[.slice A N c, .bool (okG (CovP s l q))]) ∧ (CovP s l q → N = q.length ∧ w'.ownsRow w.heap.size 62 1 (.slice A N c) N (cellsU (q.map codeL))) ∧ Below w.heap.size w w'
theorem RetCv.no {w w' : World} {s : Int} {l : List Ed} {q : List (List Int)} (h : ¬ CovP s l q) (hb : Below w.heap.size w w') : RetCv w s l q (.returned (.tuple #[.slice none 0 0, .bool false])) w' :=
  ⟨none, 0, 0, by rw [okG_no h], fun h2 => absurd h2 h, hb⟩
theorem map_take_succ {q : List (List Int)} {k : Nat} {xs : List Int} (h : q[k]? = some xs) : ((q.take (k + 1)).map codeL) = (q.take k).map codeL ++ [codeL xs] := by
  rw [List.take_add_one, h, List.map_append]; rfl
theorem cellsU_appC (l m : List Nat) : cellsU (l ++ m) = cellsU l ++ cellsU m := by simp [cellsU]
set_option maxHeartbeats 8000000 in
set_option maxRecDepth 100000 in
theorem coverOf_any (s : Int) (v : Value) (A2 : Option Addr) (c2 : Nat) (us : List Value) (q : List (List Int)) (l : List Ed) (w : World) (h : Edges w v l) (hl : l.length ≤ 1048576) (ht : ReadsG w (.slice A2 q.length c2) us q) (hql : q.length ≤ 1048576) (hqr : ∀ r ∈ q, r.length ≤ 1048576) :
    Calls Try.prog 39 #[.agg #[.int .i64 s, v], .slice A2 q.length c2] w (RetCv w s l q) := by
  obtain ⟨A, c, rfl, -⟩ := h.form
  obtain ⟨i0, hi, hz0, hz1, hz2⟩ := info_parts infoU
  have H := Lib.hid h
  have HT := Lib.hid ht
  have b0 : Below w.heap.size w (w.alloc (.cells #[.int .i64 s, .slice A l.length c] 30)) := (Below.refl _ _).alloc (Nat.le_refl _) _
  have g0 := Blk.new w 30 #[.int .i64 s, .slice A l.length c]
  obtain ⟨p0, p1, -, -⟩ := g0.two
  have HN := Lib.hid (implIsGraph_any s _ l _ (h.below b0) hl)
  have HB0 := Lib.hid b0
  have HG0 := Lib.hid g0
  clear h b0 g0 ht
  by_cases hgd : P2.Good s l
  · rw [goodB_yes hgd] at HN
    have HOK := Lib.hid hgd
    have h0 := hgd.1
    have h8 := hgd.2.1
    obtain ⟨n, rfl⟩ : ∃ n : Nat, s = (n : Int) := ⟨s.toNat, by omega⟩
    have hn : n ≤ 8 := by omega
    have HIF := Lib.hid (covP_is (q := q) hgd)
    have HS := Lib.hid (fun (xs : List Int) (u : Value) (W : World) (hW : Below w.heap.size w W) (hu : Ints W u xs) (hx : xs.length ≤ 1048576) => hasSet_any (n : Int) (.slice A l.length c) u l xs W (H.out.below hW) hl hu hx)
    have HBO := Lib.hid (fun (xs : List Int) (u : Value) (W : World) (hu : Ints W u xs) (hx : xs.length ≤ 1048576) (hr : ∀ x ∈ xs, 0 ≤ x ∧ x < (n : Int)) => bitsOf_any u xs W hu hx (fun x hx => by have := hr x hx; omega))
    have HCQ := Lib.hid (fun (d : Nat) (hd : d < 2 ^ n) (W : World) (u : Value) (hu : Nums W u (clos l n)) => (by have h_ := isClique_any n (bitB d) u l W hu hgd hn; rw [numb hd] at h_; exact h_ : Calls Try.prog 75 #[u, .int .u64 (d : Int)] W fun e w' => e = .returned (.bool (clqC n l d)) ∧ Below W.heap.size W w'))
    have HPW := Lib.hid (pow_le hn)
    have hp1 : 1 ≤ 2 ^ n := Nat.one_le_two_pow
    have hw1 : IntKind.u64.wrap (IntKind.u64.wrap ((2 : Int) ^ n) - 1) = ((2 ^ n - 1 : Nat) : Int) := by
      have hpn := pow_le hn
      rw [wrap_pow hn, IntKind.wrap_u64]
      generalize 2 ^ n = z at *
      omega
    clear hgd hp1
    go_enter Try.func39, Try.ntmps39
    go_wp2_with fail
    refine HN.out.mono ?_
    rintro e w1 ⟨rfl, b1⟩
    have HE1 := Lib.hid (btrans HB0.out b1)
    have HG1 := Lib.hid (HG0.out.below b1 HG0.out.lt)
    clear p0 p1 b1 HN HB0 HG0
    obtain ⟨p0, p1, -, -⟩ := HG1.out.two
    have HCB := Lib.hid (closedBits_any n (.slice A l.length c) l w1 (H.out.below HE1.out) hl HOK.out hn)
    go_wp2_with fail
    refine HCB.out.mono ?_
    rintro e w2 ⟨A3, c3, rfl, i3, b3⟩
    have HE2 := Lib.hid (btrans HE1.out b3)
    have HG2 := Lib.hid (HG1.out.below b3 HG1.out.lt)
    have HI2 := Lib.hid i3
    clear p0 p1 b3 i3 HCB HE1 HG1
    obtain ⟨p0, p1, -, -⟩ := HG2.out.two
    go_wp2_with fail
    clear p0 p1
    go_loopg [7, 8, 19] q.length (fun g kv cv iv wr => ∃ (k : Nat) (kw : Value), kw = kv ∧ k + g = q.length ∧ cv = .int .u64 (cvN q k : Int) ∧ iv = .int .i64 (k : Int) ∧ Hid (CvK n l q k) ∧ wr.ownsRow w2.heap.size 62 1 kw k (cellsU ((q.take k).map codeL)) ∧ Below w2.heap.size w2 wr)
    case atStart => exact ⟨0, _, rfl, by omega, rfl, rfl, CvK.zero n l q, World.ownsRow_nil _ _ _ _, Below.refl _ _⟩
    case round =>
      obtain ⟨k, kw, rfl, hkg, rfl, rfl, hck, hrow, hB⟩ := hrel
      obtain ⟨A4, c4, rfl⟩ := own_form hrow
      have HB := Lib.hid hB
      have HE := Lib.hid (btrans HE2.out hB)
      have HG := Lib.hid (HG2.out.below hB HG2.out.lt)
      have hcl := cvN_lt (by omega) hck.out
      obtain ⟨p0, p1, -, -⟩ := HG.out.two
      cases gk with
      | zero =>
        obtain rfl : k = q.length := by omega
        have HV : Hid (okG (CovP (n : Int) l q) = (cvN q q.length == 2 ^ n - 1)) := by
          show _ = _
          rw [Bool.eq_iff_iff, okG_iff, HIF.out, beq_iff_eq]
          exact ⟨fun h => h.2, fun h => ⟨hck.out, h⟩⟩
        rw [List.take_length] at hrow
        have HR := Lib.hid hrow
        have hsz := HE2.out.size
        clear hrow hcl hB
        generalize cvN q q.length = y1 at *
        generalize 2 ^ n - 1 = z1 at *
        have hbq := beq_castC y1 z1
        go_wp2_with fail
        go_quiet (fail)
        go_wp2_with fail
        go_ret2
        exact ⟨A4, _, c4, by rw [HV.out]; rfl, fun _ => ⟨rfl, own_below (own_base HR.out hsz) (below_drewN (Below.refl _ _) _)⟩, below_drewN HE.out _⟩
      | succ g2 =>
        have hlt : k < q.length := by omega
        have hlt' : (k : Int) < (q.length : Int) := by omega
        obtain ⟨xs, hxs⟩ : ∃ xs, q[k]? = some xs := ⟨_, List.getElem?_eq_getElem hlt⟩
        have hxl := hqr xs (List.mem_of_getElem? hxs)
        obtain ⟨u, g5, o5, hu5, hA5, c5, hu⟩ := (HT.out.below HE.out).row hxs
        subst hA5
        obtain ⟨Ax, cx, rfl, -⟩ := hu.form
        have HNO : Hid (¬ CvS n l (cvN q k) xs → ¬ CovP (n : Int) l q) := fun h1 h2 => cvP_no hxs h1 (HIF.out.1 h2)
        have HS1 := Lib.hid (HS.out xs _ wr HE.out hu hxl)
        have HU := Lib.hid hu
        have HE9 := HE.out
        have hsz := HE2.out.size
        have HRX := Lib.hid (hrow)
        by_cases hx0 : xs = []
        · have HF := Lib.hid (HNO.out fun h1 => h1.1.2 hx0)
          subst hx0
          clear hrow hcl hB HS1 HE9 HRX hu5
          go_wp2_with fail
          go_ret2
          exact RetCv.no HF.out HE.out
        · have hq0 : ((xs.length : Int) == 0) = false := by
            rw [beq_eq_false_iff_ne]
            intro e
            exact hx0 (List.length_eq_zero_iff.1 (by omega))
          by_cases hso : SetOk (n : Int) l xs
          · rw [okG_yes hso] at HS1
            have hcn := code_lt (m := n) hso.2.1
            have HBO1 := Lib.hid (fun (W : World) (hW : Below wr.heap.size wr W) => HBO.out xs _ W (HU.out.below hW) hxl hso.2.1)
            have hyc : bits .and .u64 (codeL xs : Int) (cvN q k : Int) = ((codeL xs &&& cvN q k : Nat) : Int) := bits_and_u64_nat _ _ (by have := HPW.out; omega) (by have := HPW.out; omega)
            have hyo : bits .or .u64 (cvN q k : Int) (codeL xs : Int) = ((cvN q k ||| codeL xs : Nat) : Int) := bits_or_u64_nat _ _ (by have := HPW.out; omega) (by have := HPW.out; omega)
            have HCQ1 := Lib.hid (fun (W : World) (hW : Below wr.heap.size wr W) => HCQ.out (codeL xs) hcn W _ ((HI2.out.below hB).below hW))
            have HNX := Lib.hid (cvN_succ hxs)
            have HMT := Lib.hid (map_take_succ hxs)
            have HCK : Hid (CvS n l (cvN q k) xs → CvK n l q (k + 1)) := fun h => hck.out.next hxs h
            have HCV : Hid (CvS n l (cvN q k) xs ↔ (codeL xs &&& cvN q k = 0 ∧ clqC n l (codeL xs) = true)) := ⟨fun h => h.2, fun h => ⟨⟨hso, hx0⟩, h⟩⟩
            clear hso hx0 hcl hu hu5 hxs hcn
            generalize codeL xs &&& cvN q k = ya at *
            generalize cvN q k ||| codeL xs = yo at *
            generalize codeL xs = yc at *
            by_cases hya : ya = 0
            · subst hya
              cases hcq : clqC n l yc with
              | true =>
                have HN := Lib.hid (HCK.out (HCV.out.2 ⟨rfl, hcq⟩))
                rw [hcq] at HCQ1
                clear hcq hrow hB HE9 hck
                go_wp2_with fail
                refine HS1.out.mono ?_
                rintro e w4 ⟨rfl, b4⟩
                have HB4 := Lib.hid b4
                clear p0 p1
                go_wp2_with fail
                refine (HBO1.out w4 HB4.out).mono ?_
                rintro e w' ⟨rfl, rfl⟩
                go_wp2_with fail
                refine (HCQ1.out w4 HB4.out).mono ?_
                rintro e w5 ⟨rfl, b5⟩
                have HB5 := Lib.hid (btrans HB4.out b5)
                have HR5 := own_below HRX.out HB5.out
                have hs5 := HB5.out.size
                have hs6 := HB.out.size
                have hz : w2.heap.size ≤ w5.heap.size := by omega
                clear b4 b5 c5
                go_wp2_with (at_builtin; refine wpList_append_own _ rfl _ _ 57 rfl w2.heap.size 62 i0 (.int .u64 0) 1 8 Try.underlying57 hi hz0 hz1 hz2 rfl (by decide) _ _ _ rfl (HR5.alloc _) ⟨w5.heap.size, 0, none⟩ 1 1 [.int .u64 (yc : Int)] rfl rfl (cell_one_new _ _ _) (fun x hx => by simp at hx; subst hx; rfl) (by unfold maxLen; omega) (by omega) (by simp; omega) ?_; intro v8 w8 hown8 hgrow8 _)
                have HR8 := Lib.hid hown8
                have HB8 := Lib.hid (((btrans HB.out HB5.out).alloc hz _).grown hgrow8 (by simp; omega) (fun j e => (HR5.lt j e).1))
                clear hown8 hgrow8 HR5
                go_roundg g2
                case measure => omega
                case rel => exact ⟨k + 1, v8, rfl, by omega, by rw [HNX.out], by go_num, HN, by rw [HMT.out, cellsU_appC]; exact HR8.out, HB8.out⟩
              | false =>
                have HF := Lib.hid (HNO.out fun h1 => by have := (HCV.out.1 h1).2; rw [hcq] at this; cases this)
                rw [hcq] at HCQ1
                clear hcq hrow hB HE9 hck
                go_wp2_with fail
                refine HS1.out.mono ?_
                rintro e w4 ⟨rfl, b4⟩
                have HB4 := Lib.hid b4
                clear p0 p1
                go_wp2_with fail
                refine (HBO1.out w4 HB4.out).mono ?_
                rintro e w' ⟨rfl, rfl⟩
                go_wp2_with fail
                refine (HCQ1.out w4 HB4.out).mono ?_
                rintro e w5 ⟨rfl, b5⟩
                have HB5 := Lib.hid (btrans HB4.out b5)
                clear b4 b5 c5
                go_wp2_with fail
                go_ret2
                exact RetCv.no HF.out (btrans HE.out HB5.out)
            · have HF := Lib.hid (HNO.out fun h1 => hya (HCV.out.1 h1).1)
              have hy1 : ((ya : Int) != 0) = true := by simpa using hya
              have hy2 : ((ya : Int) == 0) = false := by rw [beq_eq_false_iff_ne]; omega
              have hy3 : (ya == 0) = false := by rw [beq_eq_false_iff_ne]; omega
              clear hrow hB HE9 hck hya
              go_wp2_with fail
              refine HS1.out.mono ?_
              rintro e w4 ⟨rfl, b4⟩
              have HB4 := Lib.hid b4
              clear p0 p1
              go_wp2_with fail
              refine (HBO1.out w4 HB4.out).mono ?_
              rintro e w' ⟨rfl, rfl⟩
              clear b4 c5
              go_wp2_with fail
              go_ret2
              exact RetCv.no HF.out (btrans HE.out HB4.out)
          · rw [okG_no hso] at HS1
            have HF := Lib.hid (HNO.out fun h1 => hso h1.1.1)
            clear hso hx0 hcl hu hu5 hxs hrow hB HE9 hck
            go_wp2_with fail
            refine HS1.out.mono ?_
            rintro e w4 ⟨rfl, b4⟩
            clear c5
            go_wp2_with fail
            go_ret2
            exact RetCv.no HF.out (btrans HE.out b4)
  · rw [goodB_no hgd] at HN
    have HNO : Hid (¬ CovP s l q) := fun h => hgd h.1
    clear hgd
    go_enter Try.func39, Try.ntmps39
    go_wp2_with fail
    refine HN.out.mono ?_
    rintro e w1 ⟨rfl, b1⟩
    have HE1 := Lib.hid (btrans HB0.out b1)
    clear p0 p1 b1
    go_wp2_with fail
    go_ret2
    exact RetCv.no HNO.out HE1.out
end Go.Proofs.Ytdhbaegkogklgaa.ups
