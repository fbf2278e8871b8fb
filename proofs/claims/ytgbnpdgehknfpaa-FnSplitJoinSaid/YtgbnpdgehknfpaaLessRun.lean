/- The contracts of LessString; it is asymmetric. -/
import Derived.Test.YtgbnpdgehknfpaaProg
import Derived.Test.YtgbnpdgehknfpaaPlain
import Derived.WalkKit
import Derived.WalkLawsBesides
namespace Go.Proofs.Ytgbnpdgehknfpaa.lessrun
open Go.RowKit P1

theorem implLess_any (a b : ByteArray) (r : Bool) (w : World) (h : Op.bytesLess a.toList b.toList = r) :
    Calls Try.prog 15 #[.string a, .string b] w fun e w' => e = .returned (.bool r) ∧ w = w' := by
  go_enter Try.func15, Try.ntmps15
  go_wp2
  go_ret
  exact ⟨rfl, rfl⟩
theorem specLess_any (a b : ByteArray) (r : Bool) (w : World) (h : Op.bytesLess a.toList b.toList = r) :
    Calls Try.prog 16 #[.string a, .string b] w fun e w' => e = .returned (.bool r) ∧ w = w' := by
  go_enter Try.func16, Try.ntmps16
  go_wp2
  go_ret
  exact ⟨rfl, rfl⟩
theorem less_asym : ∀ x y : List UInt8, Op.bytesLess x y = true → Op.bytesLess y x = false
  | [], [], h => by simp [Op.bytesLess] at h
  | [], _ :: _, _ => by simp [Op.bytesLess]
  | _ :: _, [], h => by simp [Op.bytesLess] at h
  | a :: x, b :: y, h => by
    have ih := less_asym x y
    simp only [Op.bytesLess] at h ⊢
    by_cases h1 : a < b
    · have h2 : ¬ b < a := fun e => absurd (UInt8.lt_trans h1 e) (UInt8.lt_irrefl _)
      have h3 : b ≠ a := fun e => by subst e; exact absurd h1 (UInt8.lt_irrefl _)
      simp_all
    · by_cases h3 : a = b
      · subst h3; simp_all
      · simp_all
end Go.Proofs.Ytgbnpdgehknfpaa.lessrun
