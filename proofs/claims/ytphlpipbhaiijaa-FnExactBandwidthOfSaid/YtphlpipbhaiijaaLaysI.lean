/- Cuts and cutwidths of layouts: the contracts of the program's CutsOf and CutwidthOf. -/
import Derived.Handy
import Derived.Test.YtphlpipbhaiijaaAlongI
import Derived.Test.YtphlpipbhaiijaaClosed
namespace Go.Proofs.Ytphlpipbhaiijaa.lays
open Go.RowKit P2 words edges ints good adjs fns sets rets covs reach bags each degs bitsI func
set_option linter.unusedVariables false

theorem EachS.nodup {n : Nat} {tl : List Int} (h : EachS n tl) : tl.Nodup := by
  rw [List.Nodup, List.pairwise_iff_getElem]
  intro i j hi hj hij e
  exact EachS.fresh h (List.getElem?_eq_getElem hj) (by rw [← e]; exact List.mem_take_iff_getElem.2 ⟨i, by omega, rfl⟩)
/-- the cut at a place -/
def cutF (l : List Ed) (tl : List Int) (k : Nat) : Int := (crossN l (tl.take (k + 1)) : Int)
def cutsL (l : List Ed) (tl : List Int) (n : Nat) : List Int := (List.range n).map (cutF l tl)
theorem cutsL_len (l : List Ed) (tl : List Int) (n : Nat) : (cutsL l tl n).length = n := by simp [cutsL]
theorem cuts_len (s : Int) (l : List Ed) (tl : List Int) : (inG (ElimOk s l tl) (cutsL l tl s.toNat)).length ≤ 1048576 := inG_len fun hp => by
  rw [cutsL_len]; have := hp.1.1; have := hp.1.2.1; omega
set_option maxHeartbeats 1000000 in
set_option maxRecDepth 100000 in
theorem implCuts_any (s : Int) (v u : Value) (l : List Ed) (tl : List Int) (w : World) (h : Edges w v l) (hl : l.length ≤ 1048576) (hu : Ints w u tl) (htl : tl.length ≤ 1048576) :
    Calls Try.prog 23 #[.agg #[.int .i64 s, v], u] w (RetI w (ElimOk s l tl) (cutsL l tl s.toNat)) := by
  obtain ⟨A, c, rfl, -⟩ := h.form
  obtain ⟨A2, c2, rfl, -⟩ := hu.form
  have H := Lib.hid h
  have HU := Lib.hid hu
  have hcap := ints_cap hu
  have b0 : Below w.heap.size w (w.alloc (.cells #[.int .i64 s, .slice A l.length c] 29)) := (Below.refl _ _).alloc (Nat.le_refl _) _
  have g0 := Blk.new w 29 #[.int .i64 s, .slice A l.length c]
  have HO := Lib.hid (hasOrder_any s _ _ l tl _ (h.below b0) hl (hu.below b0) htl)
  clear h hu
  by_cases hok : ElimOk s l tl
  · rw [okG_yes (show P2.Good s l ∧ EachS s.toNat tl from hok)] at HO
    have h0 := hok.1.1
    have h8 := hok.1.2.1
    obtain ⟨n, rfl⟩ : ∃ n : Nat, s = (n : Int) := ⟨s.toNat, by omega⟩
    rw [Int.toNat_natCast]
    have HOK := Lib.hid hok
    have hn : n ≤ 8 := by omega
    have HE : Hid (EachS n tl) := by have := hok.2; rwa [Int.toNat_natCast] at this
    have hnl := HE.out.1
    rw [hnl] at HO hcap ⊢
    clear hok hnl
    go_enter Try.func23, Try.ntmps23
    go_wp2_with fail
    refine HO.out.mono ?_
    rintro e w1 ⟨rfl, b1⟩
    have e1 := btrans b0 b1
    have g1 := g0.below b1 g0.lt
    obtain ⟨p0, p1, -, -⟩ := g1.two
    clear HO b0 b1 g0
    go_wp2_with fail
    refine (closedBits_any n (.slice A l.length c) l w1 (H.out.below e1) hl HOK.out.1 hn).mono ?_
    rintro e w2 ⟨A3, c3, rfl, r3, b3⟩
    have HE2 := Lib.hid (btrans e1 b3)
    have HAL := Lib.hid (along_any n 61 193 (.slice A3 (clos l n).length c3) (cutF l tl) A2 c2 w2 hn hcap (fun _ => by kernel_rfl) (fun _ => by kernel_rfl) (fun _ _ => by kernel_rfl)
      (fun W k hW hk => (cutEnd_any n _ _ l (tl.take (k + 1)) W (r3.below hW) HOK.out.1 hn (ints_take (c := c2) ((show Ints w (.slice A2 tl.length c2) tl from HU.out).below (btrans HE2.out hW)) (by rw [HE.out.1]; omega) (by omega)) ((EachS.nodup HE.out).sublist (List.take_sublist _ _)) (fun y hy => HE.out.range y (List.mem_of_mem_take hy)) (by rw [List.length_take]; omega)).mono
        fun e w' ⟨he, hw⟩ => ⟨he, hw ▸ Below.refl _ _⟩))
    clear r3 b3
    go_wp2_with fail
    refine HAL.out.mono ?_
    rintro e w4 ⟨A4, c4, rfl, o4, b4⟩
    have HLN := Lib.hid (cutsL_len l tl n)
    have HR : Hid (w4.ownsRow w.heap.size 3 1 (.slice A4 (cutsL l tl n).length c4) (cutsL l tl n).length (cellsI (cutsL l tl n))) := by
      show World.ownsRow _ _ _ _ _ _ _
      rw [HLN.out]
      exact own_base o4 HE2.out.size
    have HB := Lib.hid (btrans HE2.out b4)
    clear o4 b4
    go_wp2_with fail
    go_ret2
    have h_ := RetI.yes (l := cutsL l tl n) HOK.out HR.out HB.out
    rw [HLN.out] at h_
    exact h_
  · rw [okG_no (show ¬ (P2.Good s l ∧ EachS s.toNat tl) from hok)] at HO
    have HN := Lib.hid hok
    clear hok
    go_enter Try.func23, Try.ntmps23
    go_wp2_with fail
    refine HO.out.mono ?_
    rintro e w1 ⟨rfl, b1⟩
    go_wp2_with fail
    go_ret2
    exact RetI.nil HN.out (btrans b0 b1)
theorem implCutwidth_any (s : Int) (v u : Value) (l : List Ed) (tl : List Int) (w : World) (h : Edges w v l) (hl : l.length ≤ 1048576) (hu : Ints w u tl) (htl : tl.length ≤ 1048576) :
    Calls Try.prog 28 #[.agg #[.int .i64 s, v], u] w (RetN w (ElimOk s l tl) (grL (cutsL l tl s.toNat))) := by
  obtain ⟨A, c, rfl, -⟩ := h.form
  have b0 : Below w.heap.size w (w.alloc (.cells #[.int .i64 s, .slice A l.length c] 29)) := (Below.refl _ _).alloc (Nat.le_refl _) _
  obtain ⟨p0, p1, -, -⟩ := (Blk.new w 29 #[.int .i64 s, .slice A l.length c]).two
  have HC := Lib.hid (implCuts_any s _ _ l tl _ (h.below b0) hl (hu.below b0) htl)
  have HLN := Lib.hid (cuts_len s l tl)
  have HV : Hid (grL (inG (ElimOk s l tl) (cutsL l tl s.toNat)) = szG (ElimOk s l tl) (grL (cutsL l tl s.toNat))) := by
    show _ = _
    by_cases hp : ElimOk s l tl
    · rw [inG_yes hp, szG_yes hp]
    · rw [inG_no hp, szG_no hp]; rfl
  clear h hu
  go_enter Try.func28, Try.ntmps28
  go_wp2_with fail
  refine HC.out.mono ?_
  rintro e w2 ⟨A2, c2, rfl, o2, b2⟩
  have HB2 := Lib.hid (btrans b0 b2)
  have HG := Lib.hid (greatestOf_any _ _ w2 (show Ints _ _ _ from Reads.of_own o2) HLN.out)
  clear o2 b2
  go_wp2_with fail
  refine HG.out.mono ?_
  rintro e w' ⟨rfl, rfl⟩
  go_wp2_with fail
  go_ret2
  rw [HV.out]
  exact ⟨rfl, HB2.out⟩
end Go.Proofs.Ytphlpipbhaiijaa.lays
