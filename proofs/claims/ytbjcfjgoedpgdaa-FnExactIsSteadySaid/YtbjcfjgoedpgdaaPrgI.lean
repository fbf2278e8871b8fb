/- The contracts of IsProgram, of the program and of the model. -/
import Derived.Handy
import Derived.Test.YtbjcfjgoedpgdaaMomO
import Derived.Test.YtbjcfjgoedpgdaaStepS
import Derived.Test.YtbjcfjgoedpgdaaLayI
import Derived.Deep.DeepCutAuto
import Derived.Deep.RegionHeld3
namespace Go.Proofs.Ytbjcfjgoedpgdaa.moms
open Go.RowKit P2 words edges ints good near adjs fns sets rets covs reach bags bitsI fronts
set_option linter.unusedVariables false

set_option maxHeartbeats 1000000 in
set_option maxRecDepth 100000 in
theorem implIsProgram_any (s : Int) (v u : Value) (l : List Ed) (pl : List Int) (w : World) (h : Edges w v l) (hl : l.length ≤ 1048576) (hu : Ints w u pl) (hpl : pl.length ≤ 1048576) (h64 : ∀ x ∈ pl, In64 x) :
    Calls Try.prog 33 #[.agg #[.int .i64 s, v], u] w fun e w' => e = .returned (.tuple #[.bool (okG (PrgOk s l pl)), .bool (goodB s l)]) ∧ Below w.heap.size w w' := by
  obtain ⟨A, c, rfl, -⟩ := h.form
  have b0 : Below w.heap.size w (w.alloc (.cells #[.int .i64 s, .slice A l.length c] 29)) := (Below.refl _ _).alloc (Nat.le_refl _) _
  have g0 := Blk.new w 29 #[.int .i64 s, .slice A l.length c]
  have HM := Lib.hid (momentsOf_any s _ u l pl _ (h.below b0) hl (hu.below b0) hpl h64)
  have H := Lib.hid h
  clear h hu
  obtain ⟨p0, p1, -, -⟩ := g0.two
  go_enter Try.func33, Try.ntmps33
  go_wp2_with fail
  refine HM.out.mono ?_
  rintro e w2 ⟨A2, c2, rfl, hm2, b2⟩
  have e2 := btrans b0 b2
  have g2 := g0.below b2 g0.lt
  clear p0 p1 hm2
  obtain ⟨p0, p1, -, -⟩ := g2.two
  have HG := Lib.hid (implIsGraph_any s (.slice A l.length c) l w2 (H.out.below e2) hl)
  have HE := Lib.hid e2
  generalize (mcG (PrgOk s l pl) (momC s.toNat l pl pl.length)).length = mm at *
  clear e2 b2 g2 g0 b0
  go_wp2_with fail
  refine HG.out.mono ?_
  rintro e w3 ⟨rfl, b3⟩
  go_wp2_with fail
  go_ret2
  exact ⟨rfl, btrans HE.out b3⟩
theorem prg_iff {n : Nat} {l : List Ed} {pl : List Int} (hg : P2.Good (n : Int) l) : okG (pl.length ≤ 40 ∧ ProgP n pl) = okG (PrgOk (n : Int) l pl) := by
  rw [Bool.eq_iff_iff, okG_iff, okG_iff]
  unfold PrgOk
  rw [Int.toNat_natCast]
  exact ⟨fun h => ⟨hg, h⟩, fun h => h.2⟩
set_option maxHeartbeats 1000000 in
theorem specIsProgram_any (s : Int) (v u : Value) (l : List Ed) (pl : List Int) (w : World) (h : Edges w v l) (hl : l.length ≤ 1048576) (hu : Ints w u pl) (hpl : pl.length ≤ 1048576) (h64 : ∀ x ∈ pl, In64 x) (hs1 : -9223372036854775808 ≤ s) (hs2 : s ≤ 9223372036854775807) :
    Calls Try.prog 32 #[.agg #[.int .i64 s, v], u] w fun e w' => e = .returned (.tuple #[.bool (okG (PrgOk s l pl)), .bool (goodB s l)]) ∧ Below w.heap.size w w' := by
  obtain ⟨A, c, rfl, -⟩ := h.form
  have b0 : Below w.heap.size w (w.alloc (.cells #[.int .i64 s, .slice A l.length c] 29)) := (Below.refl _ _).alloc (Nat.le_refl _) _
  have g0 := Blk.new w 29 #[.int .i64 s, .slice A l.length c]
  have H := Lib.hid h
  have HU := Lib.hid hu
  have H64 := Lib.hid h64
  have HG := Lib.hid (l2Good_any s _ l _ (h.below b0) hl hs1 hs2)
  clear h hu h64
  by_cases hgd : P2.Good s l
  · rw [goodB_yes hgd] at HG ⊢
    have h0 := hgd.1
    have h8 := hgd.2.1
    obtain ⟨n, rfl⟩ : ∃ n : Nat, s = (n : Int) := ⟨s.toNat, by omega⟩
    have hn : n ≤ 8 := by omega
    have HV := Lib.hid (prg_iff (pl := pl) hgd)
    clear hgd
    go_enter Try.func32, Try.ntmps32
    go_wp2_with fail
    refine HG.out.mono ?_
    rintro e w1 ⟨rfl, b1⟩
    have e1 := btrans b0 b1
    have g1 := g0.below b1 g0.lt
    obtain ⟨p0, p1, -, -⟩ := g1.two
    clear HG b0 b1 g0
    go_wp2_with fail
    refine (l6Program_any n (.slice A l.length c) u l pl w1 (H.out.below e1) hl (HU.out.below e1) hpl hn H64.out).mono ?_
    rintro e w2 ⟨rfl, b2⟩
    go_wp2_with fail
    go_ret2
    exact ⟨retBB' HV.out rfl, btrans e1 b2⟩
  · rw [goodB_no hgd] at HG ⊢
    have HN : Hid (okG (PrgOk s l pl) = false) := okG_no fun hh => hgd hh.1
    clear hgd
    go_enter Try.func32, Try.ntmps32
    go_wp2_with fail
    refine HG.out.mono ?_
    rintro e w1 ⟨rfl, b1⟩
    go_wp2_with fail
    go_ret2
    exact ⟨retBB' HN.out.symm rfl, btrans b0 b1⟩
end Go.Proofs.Ytbjcfjgoedpgdaa.moms
