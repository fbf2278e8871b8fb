/- The contracts of the program's IsFirePlan and SavedNodes. -/
import Derived.Handy
import Derived.Test.YtbbgbepemnmfdaaFirP
import Derived.Deep.DeepCutAuto
import Derived.Deep.RegionHeld3
import Derived.Deep.QuietTactic
namespace Go.Proofs.Ytbbgbepemnmfdaa.fires
open Go.RowKit P2 words edges ints good adjs fns sets rets covs bitsI bags ups gridr
set_option linter.unusedVariables false

noncomputable def endN (l : List Ed) (n x : Nat) (rows : List (List Int)) : Nat := Classical.epsilon fun N => EndP l n x rows N
theorem endN_is {l : List Ed} {n x : Nat} {rows : List (List Int)} {N : Nat} (h : EndP l n x rows N) : endN l n x rows = N :=
  (Classical.epsilon_spec (p := fun N => EndP l n x rows N) ⟨N, h⟩).same h
noncomputable def savL (l : List Ed) (n x : Nat) (rows : List (List Int)) : List Int := nw (fun y => !bitB (stF l n x rows (endN l n x rows)).1 y) n
set_option maxHeartbeats 1000000 in
set_option maxRecDepth 100000 in
theorem implFip_any (s start d : Int) (v : Value) (A2 : Option Addr) (c2 : Nat) (us : List Value) (rows : List (List Int)) (l : List Ed) (w : World) (h : Edges w v l) (hl : l.length ≤ 1048576) (hp : ReadsG w (.slice A2 rows.length c2) us rows) (hrl : rows.length ≤ 1048576) (hrr : ∀ r ∈ rows, r.length ≤ 1048576) :
    Calls Try.prog 33 #[.agg #[.int .i64 s, v], .int .i64 start, .int .i64 d, .slice A2 rows.length c2] w fun e w' => e = .returned (.tuple #[.bool (okG (PlanP s l start d rows)), .bool (okG (FireP s l start d))]) ∧ Below w.heap.size w w' := by
  obtain ⟨A, c, rfl, -⟩ := h.form
  have H := Lib.hid h
  have b0 : Below w.heap.size w (w.alloc (.cells #[.int .i64 s, .slice A l.length c] 29)) := (Below.refl _ _).alloc (Nat.le_refl _) _
  have g0 := Blk.new w 29 #[.int .i64 s, .slice A l.length c]
  obtain ⟨p0, p1, -, -⟩ := g0.two
  have HFO := Lib.hid (firesOf_any s start d (.slice A l.length c) A2 c2 us rows l _ (h.below b0) hl (hp.below b0) hrl hrr)
  have HIF := Lib.hid (fun (W : World) (hW : Below w.heap.size w W) => isFire_any s start d (.slice A l.length c) l W (H.out.below hW) hl)
  have HB0 := Lib.hid b0
  have HG0 := Lib.hid g0
  clear h hp hrr b0 g0
  go_enter Try.func33, Try.ntmps33
  go_wp2_with fail
  refine HFO.out.mono ?_
  rintro e w1 ⟨hcase, b1⟩
  have HE1 := Lib.hid (btrans HB0.out b1)
  have HG1 := Lib.hid (HG0.out.below b1 HG0.out.lt)
  have HI1 := Lib.hid (HIF.out w1 HE1.out)
  clear p0 p1 b1 HFO
  obtain ⟨p0, p1, -, -⟩ := HG1.out.two
  rcases hcase with ⟨hpl, N, A4, c4, hen, hN, rfl, -⟩ | ⟨hpl, rfl⟩
  · have HV := Lib.hid (okG_yes hpl)
    clear hpl hen
    go_wp2_with fail
    refine HI1.out.mono ?_
    rintro e w2 ⟨rfl, b2⟩
    go_wp2_with fail
    go_ret2
    rw [HV.out]
    exact ⟨rfl, btrans HE1.out b2⟩
  · have HV := Lib.hid (okG_no hpl)
    clear hpl
    go_wp2_with fail
    refine HI1.out.mono ?_
    rintro e w2 ⟨rfl, b2⟩
    go_wp2_with fail
    go_ret2
    rw [HV.out]
    exact ⟨rfl, btrans HE1.out b2⟩
end Go.Proofs.Ytbbgbepemnmfdaa.fires
