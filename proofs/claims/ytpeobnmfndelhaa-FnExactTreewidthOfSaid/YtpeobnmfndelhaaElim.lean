/- The contracts of EliminationWidth: of the program and of the model. -/
import Derived.Handy
import Derived.Test.YtpeobnmfndelhaaElimM
import Derived.Test.YtpeobnmfndelhaaAround
import Derived.Test.YtpeobnmfndelhaaClosed
import Derived.Test.YtpeobnmfndelhaaGridW
import Derived.Test.YtpeobnmfndelhaaGridR
import Derived.Test.YtpeobnmfndelhaaGridL
import Derived.Test.YtpeobnmfndelhaaMinMax
import Derived.Test.YtpeobnmfndelhaaGoodS
import Derived.StillTailTactics
namespace Go.Proofs.Ytpeobnmfndelhaa.bags
open Go.RowKit P2 words edges ints good adjs fns sets rets covs reach each bitsI grid gridr
set_option linter.unusedVariables false

theorem ite_max (a b : Int) : (if b < a then a else b) = max b a := by split <;> omega
def RetN (w : World) (p : Prop) (x : Int) (e : Ending) (w' : World) : Prop := e = .returned (.tuple #[.int .i64 (szG p x), .bool (okG p)]) ∧ Below w.heap.size w w'
theorem RetN.yes {w w' : World} {p : Prop} {x : Int} (hp : p) (hb : Below w.heap.size w w') : RetN w p x (.returned (.tuple #[.int .i64 x, .bool true])) w' := ⟨by rw [szG_yes hp, okG_yes hp], hb⟩
theorem RetN.no {w w' : World} {p : Prop} {x : Int} (hp : ¬ p) (hb : Below w.heap.size w w') : RetN w p x (.returned (.tuple #[.int .i64 0, .bool false])) w' := ⟨by rw [szG_no hp, okG_no hp], hb⟩
set_option maxHeartbeats 4000000 in
set_option maxRecDepth 100000 in
theorem bagsOf_any (n : Nat) (v u : Value) (l : List Ed) (tl : List Int) (w : World) (h : Edges w v l) (hl : l.length ≤ 1048576) (hu : Ints w u tl) (hg : P2.Good (n : Int) l) (he : EachS n tl) :
    Calls Try.prog 106 #[.agg #[.int .i64 (n : Int), v], u] w fun e w' => ∃ A c us, e = .returned (.slice A (bagsK n l tl n).length c) ∧ OwnG w' w.heap.size (.slice A (bagsK n l tl n).length c) us (bagsK n l tl n) ∧ Below w.heap.size w w' := by
  obtain ⟨A, c, rfl, -⟩ := h.form
  obtain ⟨A2, c2, rfl, hc2⟩ := hu.form
  have H := Lib.hid h
  have HC2 := Lib.hid hc2
  have HGD := Lib.hid hg
  have HE := Lib.hid he
  have hn : n ≤ 8 := by have := hg.2.1; omega
  have hnl : tl.length = n := he.1
  rw [hnl]
  have b0 : Below w.heap.size w (w.alloc (.cells #[.int .i64 (n : Int), .slice A l.length c] 30)) := (Below.refl _ _).alloc (Nat.le_refl _) _
  have g0 := Blk.new w 30 #[.int .i64 (n : Int), .slice A l.length c]
  obtain ⟨p0, p1, -, -⟩ := g0.two
  clear h hu hc2 hg he hnl
  go_enter Try.func106, Try.ntmps106
  go_wp2_with fail
  refine (closedBits_any n (.slice A l.length c) l _ (H.out.below b0) hl HGD.out hn).mono ?_
  rintro e w2 ⟨A3, c3, rfl, i3, b3⟩
  have e2 := btrans b0 b3
  have HCL := Lib.hid i3
  have HM := Lib.hid ((OwnG.made w2 n (by unfold maxLen; omega)).base e2.size)
  have HE2 := Lib.hid e2
  have HB2 := Lib.hid ((Below.refl w2.heap.size w2).alloc (Nat.le_refl _) (.cells (madeCells #[.slice none 0 0] (n * 1)) 25))
  clear i3 b3 e2 p0 p1 b0 g0
  obtain ⟨i1, hi1, hy0, hy1, hy2⟩ := info_parts infoRow
  have hmk := fun (W : World) => run_make_rowN (P := Try.prog) 27 25 i1 (.slice none 0 0) Try.underlying27 hi1 hy0 .i64 .i64 n n (Nat.le_refl _) (by rw [hy2]; omega) (by omega) W
  rw [hy1] at hmk
  go_wp2_with fail
  rw [Nat.mul_one] at HM HB2
  go_loopg [6, 17] n (fun g gv i wr => ∃ (k : Nat) (us : List Value), k + g = n ∧ i = .int .i64 (k : Int) ∧ gv = .int .u64 ((numOf (goneB (tl.take k)) n : Nat) : Int) ∧ OwnG wr w.heap.size (.slice (some ⟨w2.heap.size, 0, none⟩) n n) us (bagsR n l tl k) ∧ Below w2.heap.size w2 wr)
  case atStart => exact ⟨0, _, by omega, rfl, by (have h0 : numOf (goneB (tl.take 0)) n = 0 := numOf_zero.2 fun k _ => by simp [goneB]); rw [h0]; rfl, by rw [bagsR_zero]; exact HM.out, HB2.out⟩
  case round =>
    clear HM HB2 hmk
    obtain ⟨k, us, hkg, rfl, rfl, hG, hB⟩ := hrel
    have hsz := hB.size
    cases gk with
    | zero =>
      obtain rfl : k = n := by omega
      rw [bagsR_all] at hG
      have HLN := Lib.hid (bagsK_len k l tl k)
      go_wp2_with fail
      go_ret
      exact ⟨some ⟨w2.heap.size, 0, none⟩, k, us, by rw [HLN.out]; rfl, by rw [HLN.out]; exact hG, btrans HE2.out hB⟩
    | succ g2 =>
      have hlt : k < n := by omega
      have hlt' : (k : Int) < (n : Int) := by omega
      obtain ⟨x, hx⟩ : ∃ x, tl[k]? = some x := ⟨_, List.getElem?_eq_getElem (by rw [HE.out.1]; exact hlt)⟩
      have hxr := HE.out.range x (List.mem_of_getElem? hx)
      obtain ⟨m, rfl⟩ : ∃ m : Nat, x = (m : Int) := ⟨x.toNat, by omega⟩
      have hmn : m < n := by omega
      obtain ⟨ga, oa, rfl, c0⟩ := HC2.out k _ hx
      have q0 := nearv.cell_keep (nearv.cell_keep c0 HE2.out) hB
      have HBAG := Lib.hid (fun (W : World) (hW : Below w2.heap.size w2 W) => bagOf_any n m (goneB (tl.take k)) _ l W (HCL.out.below hW) HGD.out hn hmn (goneB_fresh HE.out hx))
      have HGET := Lib.hid (getD_at hx)
      have HGS := Lib.hid (goneB_succ hx)
      have HOR : Hid (bits .or .u64 ((numOf (goneB (tl.take k)) n : Nat) : Int) (IntKind.u64.wrap ((2 : Int) ^ m)) = ((numOf (goneB (tl.take (k + 1))) n : Nat) : Int)) := by
        show _ = _
        rw [or_walk _ m (numOf_lt _ hn) (by omega), num_or_one _ hmn, goneB_succ hx]
      have HND := Lib.hid (fun (W : World) => nodes_any (numOf (bagB n l (goneB (tl.take k)) m) n) W (by have := numOf_lt (bagB n l (goneB (tl.take k)) m) hn; omega))
      have HNN := Lib.hid (nodes_num (p := bagB n l (goneB (tl.take k)) m) hn)
      have HG := Lib.hid hG
      have HB := Lib.hid hB
      have hsz2 := HE2.out.size
      have hm8 : m ≤ 8 := by omega
      clear hG hB hx c0
      go_wp2_with fail
      refine (HBAG.out _ HB.out).mono ?_
      rintro e w' ⟨rfl, nd, rfl⟩
      go_wp2_with fail
      refine (HND.out _).mono ?_
      rintro e w3 ⟨A4, c4, rfl, o4, b4⟩
      rw [HNN.out] at o4 ⊢
      have HL4 : Hid ((bagT n l tl k) = nw (bagB n l (goneB (tl.take k)) m) n) := by unfold bagT; rw [HGET.out]; rfl
      rw [← HL4.out] at o4 ⊢
      have b3 : Below wr.heap.size wr w3 := btrans (below_drewN (Below.refl wr.heap.size wr) nd) b4
      have hG3 := HG.out.below b3
      have hrl := bagsR_len n l tl (k := k) (by omega)
      have h1 := hG3.1
      rw [hrl] at h1
      have hul := hG3.len
      rw [hrl] at hul
      obtain ⟨u0, hu0⟩ : ∃ u, us[k]? = some u := ⟨_, List.getElem?_eq_getElem (by omega)⟩
      have f0 := h1.cellAt k (by omega)
      rw [hu0] at f0
      have z0 := h1.frozenAt k
      have hgr := h1.lt w2.heap.size rfl
      have HS : Hid (OwnG (w3.setCell ⟨w2.heap.size, k, none⟩ (.slice A4 (bagT n l tl k).length c4)) w.heap.size (.slice (some ⟨w2.heap.size, 0, none⟩) n n) (us.set k (.slice A4 (bagT n l tl k).length c4)) (bagsR n l tl (k + 1))) := by
        have h9 : OwnG w3 w.heap.size (.slice (some ⟨w2.heap.size, 0, none⟩) (bagsR n l tl k).length n) us (bagsR n l tl k) := by rw [hrl]; exact hG3
        have hfr := OwnG.fresh HG.out (own_base o4 (Nat.le_refl _))
        have := OwnG.store h9 (by rw [hrl]; exact hlt) (own_base o4 (by simp; omega)) (fun i x b _ hx hb => hfr i x b hx hb)
        rw [bagsR_succ n l tl hlt, hrl] at this
        exact this
      have HB3 := Lib.hid (btrans HB.out b3)
      clear hG3 h1 hrl hul b3 b4
      go_wp2_with fail
      go_roundg g2
      case measure => omega
      case rel => exact ⟨k + 1, _, by omega, by go_num, by rw [HOR.out], HS.out, HB3.out.setCell (Nat.le_refl _) _⟩
set_option maxHeartbeats 1000000 in
theorem l5Order_any (s : Int) (v u : Value) (l : List Ed) (tl : List Int) (w : World) (h : Edges w v l) (hl : l.length ≤ 1048576) (hu : Ints w u tl) (htl : tl.length ≤ 1048576) (hs1 : -9223372036854775808 ≤ s) (hs2 : s ≤ 9223372036854775807) :
    Calls Try.prog 102 #[.agg #[.int .i64 s, v], u] w fun e w' => e = .returned (.bool (okG (ElimOk s l tl))) ∧ Below w.heap.size w w' := by
  obtain ⟨A, c, rfl, -⟩ := h.form
  have b0 : Below w.heap.size w (w.alloc (.cells #[.int .i64 s, .slice A l.length c] 30)) := (Below.refl _ _).alloc (Nat.le_refl _) _
  have g0 := Blk.new w 30 #[.int .i64 s, .slice A l.length c]
  have H := Lib.hid h
  have HU := Lib.hid hu
  have HG := Lib.hid (l2Good_any s _ l _ (h.below b0) hl hs1 hs2)
  clear h hu
  by_cases hgd : P2.Good s l
  · rw [goodB_yes hgd] at HG
    have h0 := hgd.1
    have h8 := hgd.2.1
    obtain ⟨n, rfl⟩ : ∃ n : Nat, s = (n : Int) := ⟨s.toNat, by omega⟩
    have hn : n ≤ 8 := by omega
    have HV : Hid (okG (EachS n tl) = okG (ElimOk (n : Int) l tl)) := by
      show _ = _
      rw [Bool.eq_iff_iff, okG_iff, okG_iff]
      unfold ElimOk
      rw [Int.toNat_natCast]
      exact ⟨fun h => ⟨hgd, h⟩, fun h => h.2⟩
    clear hgd
    go_enter Try.func102, Try.ntmps102
    go_wp2_with fail
    refine HG.out.mono ?_
    rintro e w1 ⟨rfl, b1⟩
    have e1 := btrans b0 b1
    have g1 := g0.below b1 g0.lt
    obtain ⟨p0, p1, -, -⟩ := g1.two
    clear HG b0 b1 g0
    go_wp2_with fail
    refine (l2Each_any n (.slice A l.length c) u l tl w1 (H.out.below e1) (HU.out.below e1) htl hn).mono ?_
    rintro e w2 ⟨rfl, b2⟩
    go_wp2_with fail
    go_ret
    exact ⟨ret_bool HV.out, btrans e1 b2⟩
  · rw [goodB_no hgd] at HG
    have HN : Hid (okG (ElimOk s l tl) = false) := okG_no fun hh => hgd hh.1
    clear hgd
    go_enter Try.func102, Try.ntmps102
    go_wp2_with fail
    refine HG.out.mono ?_
    rintro e w1 ⟨rfl, b1⟩
    go_wp2_with fail
    go_ret
    exact ⟨ret_bool HN.out.symm, btrans b0 b1⟩
theorem ints_take {w : World} {A : Option Addr} {c i : Nat} {tl : List Int} (h : Ints w (.slice A tl.length c) tl) (hi : i ≤ tl.length) (hc : i ≤ c) : Ints w (.slice A i c) (tl.take i) := by
  have h1 := apps.Reads.take (c' := c) h hi hc
  rw [apps.cellsI_take] at h1
  show Reads w 1 _ (tl.take i).length _
  rw [List.length_take, Nat.min_eq_left hi]
  exact h1
theorem ints_cap {w : World} {A : Option Addr} {c : Nat} {tl : List Int} (h : Ints w (.slice A tl.length c) tl) : tl.length ≤ c := by
  rcases Nat.eq_zero_or_pos tl.length with h0 | h0
  · omega
  · obtain ⟨A', c', e, hx⟩ := h
    cases e
    exact (hx h0).choose_spec.choose_spec.2.1
end Go.Proofs.Ytpeobnmfndelhaa.bags
