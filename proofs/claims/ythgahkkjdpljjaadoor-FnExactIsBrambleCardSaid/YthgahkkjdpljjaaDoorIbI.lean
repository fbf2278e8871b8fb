/- Brambles: the contracts of the program's and the model's IsBramble. -/
import Derived.Handy
import Derived.Test.YthgahkkjdpljjaaDoorBrmI
import Derived.Test.YthgahkkjdpljjaaDoorBrmS
import Derived.Deep.DeepCutAuto
import Derived.Deep.RegionHeld3
import Derived.Deep.QuietTactic
namespace Go.Proofs.YthgahkkjdpljjaaDoor.joins
open Go.RowKit P2 words edges ints owns good adjs fns sets rets covs bags bitsI ups func gridr least
set_option linter.unusedVariables false

set_option maxHeartbeats 4000000 in
set_option maxRecDepth 100000 in
theorem implIb_any (s : Int) (v : Value) (A2 : Option Addr) (c2 : Nat) (us : List Value) (q : List (List Int)) (l : List Ed) (w : World) (h : Edges w v l) (hl : l.length ≤ 1048576) (ht : ReadsG w (.slice A2 q.length c2) us q) (hql : q.length ≤ 1048576) (hqr : ∀ r ∈ q, r.length ≤ 1048576) (hE : Env w) :
    Calls Tryd.prog 9 #[.agg #[.int .i64 s, v], .slice A2 q.length c2] w fun e w' => e = .returned (.tuple #[.bool (okG (BramP s l q)), .bool (okG (P2.Good s l))]) ∧ Below w.heap.size w w' := by
  obtain ⟨A, c, rfl, -⟩ := h.form
  have H := Lib.hid h
  have b0 : Below w.heap.size w (w.alloc (.cells #[.int .i64 s, .slice A l.length c] 30)) := (Below.refl _ _).alloc (Nat.le_refl _) _
  have HG0 := Lib.hid (Blk.new w 30 #[.int .i64 s, .slice A l.length c])
  obtain ⟨p0, p1, -, -⟩ := HG0.out.two
  have HC := Lib.hid (brambleOf_any s (.slice A l.length c) A2 c2 us q l _ (h.below b0) hl (ht.below b0) hql hqr (hE.next b0))
  have HN := Lib.hid (fun (W : World) (hW : Below w.heap.size w W) => implIsGraph_any s (.slice A l.length c) l W (H.out.below hW) hl)
  have HGB : Hid (goodB s l = okG (P2.Good s l)) := by
    show _ = _
    by_cases hg : P2.Good s l
    · rw [goodB_yes hg, okG_yes hg]
    · rw [goodB_no hg, okG_no hg]
  have HB0 := Lib.hid b0
  clear h b0 ht hE
  go_enter Tryd.func9, Tryd.ntmps9
  go_wp2_with fail
  refine HC.out.mono ?_
  rintro e w1 ⟨A4, N, c4, rfl, -, b1⟩
  have HE1 := Lib.hid (btrans HB0.out b1)
  have HG1 := Lib.hid (HG0.out.below b1 HG0.out.lt)
  clear p0 p1 b1 HC
  obtain ⟨p0, p1, -, -⟩ := HG1.out.two
  go_wp2_with fail
  refine (HN.out _ HE1.out).mono ?_
  rintro e w2 ⟨rfl, b2⟩
  have HE2 := Lib.hid (btrans HE1.out b2)
  clear p0 p1 b2
  rw [HGB.out]
  go_wp2_with fail
  go_ret2
  exact ⟨rfl, HE2.out⟩
set_option maxHeartbeats 4000000 in
set_option maxRecDepth 100000 in
theorem specIb_any (s : Int) (v : Value) (A2 : Option Addr) (c2 : Nat) (us : List Value) (q : List (List Int)) (l : List Ed) (w : World) (h : Edges w v l) (hl : l.length ≤ 1048576) (ht : ReadsG w (.slice A2 q.length c2) us q) (hql : q.length ≤ 1048576) (hqr : ∀ r ∈ q, r.length ≤ 1048576) (hs1 : -9223372036854775808 ≤ s) (hs2 : s ≤ 9223372036854775807) :
    Calls Tryd.prog 6 #[.agg #[.int .i64 s, v], .slice A2 q.length c2] w fun e w' => e = .returned (.tuple #[.bool (okG (BramP s l q)), .bool (okG (P2.Good s l))]) ∧ Below w.heap.size w w' := by
  obtain ⟨A, c, rfl, -⟩ := h.form
  have H := Lib.hid h
  have HT := Lib.hid ht
  have b0 : Below w.heap.size w (w.alloc (.cells #[.int .i64 s, .slice A l.length c] 30)) := (Below.refl _ _).alloc (Nat.le_refl _) _
  have HG0 := Lib.hid (Blk.new w 30 #[.int .i64 s, .slice A l.length c])
  obtain ⟨p0, p1, -, -⟩ := HG0.out.two
  have HGD := Lib.hid (l2Good_any s _ l _ (h.below b0) hl hs1 hs2)
  have HB0 := Lib.hid b0
  clear h b0 ht
  by_cases hgd : P2.Good s l
  · rw [goodB_yes hgd] at HGD
    rw [okG_yes hgd]
    have h0 := hgd.1
    have h8 := hgd.2.1
    obtain ⟨n, rfl⟩ : ∃ n : Nat, s = (n : Int) := ⟨s.toNat, by omega⟩
    have hn : n ≤ 8 := by omega
    have HBR := Lib.hid (fun (W : World) (hW : Below w.heap.size w W) => l5Bramble_any n (.slice A l.length c) A2 c2 us q l W (H.out.below hW) hl hgd hn (HT.out.below hW) hql hqr)
    clear hgd
    generalize okG (BramP (n : Int) l q) = r at *
    go_enter Tryd.func6, Tryd.ntmps6
    go_wp2_with fail
    refine HGD.out.mono ?_
    rintro e w1 ⟨rfl, b1⟩
    have HE1 := Lib.hid (btrans HB0.out b1)
    have HG1 := Lib.hid (HG0.out.below b1 HG0.out.lt)
    clear p0 p1 b1 HGD HB0 HG0
    obtain ⟨p0, p1, -, -⟩ := HG1.out.two
    go_wp2_with fail
    refine (HBR.out w1 HE1.out).mono ?_
    rintro e w2 ⟨rfl, b2⟩
    have HE2 := Lib.hid (btrans HE1.out b2)
    clear p0 p1 b2
    go_wp2_with fail
    go_ret2
    exact ⟨rfl, HE2.out⟩
  · rw [goodB_no hgd] at HGD
    have HNO : Hid (okG (BramP s l q) = false) := okG_no fun h => hgd h.1
    rw [okG_no hgd, HNO.out]
    clear hgd
    go_enter Tryd.func6, Tryd.ntmps6
    go_wp2_with fail
    refine HGD.out.mono ?_
    rintro e w1 ⟨rfl, b1⟩
    have HE1 := Lib.hid (btrans HB0.out b1)
    clear p0 p1 b1
    go_wp2_with fail
    go_ret2
    exact ⟨rfl, HE1.out⟩
end Go.Proofs.YthgahkkjdpljjaaDoor.joins
