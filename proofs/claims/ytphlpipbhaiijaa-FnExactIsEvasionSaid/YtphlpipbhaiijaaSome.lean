/- The contracts of the program's isFilled and of the model's l3Some. -/
import Derived.Handy
import Derived.Test.YtphlpipbhaiijaaGood
import Derived.Test.YtphlpipbhaiijaaGoodS
import Derived.Test.YtphlpipbhaiijaaRet
namespace Go.Proofs.Ytphlpipbhaiijaa.filled
open Go.RowKit P2 words edges ints good rets
set_option linter.unusedVariables false

def SomeP (s : Int) (l : List Ed) : Prop := P2.Good s l ∧ 0 < s
theorem isFilled_any (s : Int) (v : Value) (l : List Ed) (w : World) (h : Edges w v l) (hl : l.length ≤ 1048576) :
    Calls Try.prog 165 #[.agg #[.int .i64 s, v]] w fun e w' => e = .returned (.bool (okG (SomeP s l))) ∧ Below w.heap.size w w' := by
  obtain ⟨A, c, rfl, -⟩ := h.form
  have b0 : Below w.heap.size w (w.alloc (.cells #[.int .i64 s, .slice A l.length c] 29)) := (Below.refl _ _).alloc (Nat.le_refl _) _
  have g0 := Blk.new w 29 #[.int .i64 s, .slice A l.length c]
  have HG := Lib.hid (implIsGraph_any s _ l _ (h.below b0) hl)
  clear h
  by_cases hg : P2.Good s l
  · rw [goodB_yes hg] at HG
    have HV : Hid (okG (SomeP s l) = decide (0 < s)) := by
      show _ = _
      rw [Bool.eq_iff_iff, okG_iff, decide_eq_true_iff]
      exact ⟨fun h => h.2, fun h => ⟨hg, h⟩⟩
    clear hg
    go_enter Try.func165, Try.ntmps165
    go_wp2_with fail
    refine HG.out.mono ?_
    rintro e w1 ⟨rfl, b1⟩
    have g1 := g0.below b1 g0.lt
    have e1 := btrans b0 b1
    obtain ⟨p0, p1, -, -⟩ := g1.two
    clear HG g0 b0 b1
    go_wp2_with fail
    go_ret
    exact ⟨ret_bool HV.out.symm, e1⟩
  · rw [goodB_no hg] at HG
    have HV : Hid (okG (SomeP s l) = false) := okG_no (fun h => hg h.1)
    clear hg
    go_enter Try.func165, Try.ntmps165
    go_wp2_with fail
    refine HG.out.mono ?_
    rintro e w1 ⟨rfl, b1⟩
    go_wp2_with fail
    go_ret
    exact ⟨ret_bool HV.out.symm, btrans b0 b1⟩
end Go.Proofs.Ytphlpipbhaiijaa.filled
