/- The contracts of the program's RenameNodes and PutBeside. -/
import Derived.Handy
import Derived.Test.YtphlpipbhaiijaaRenM
import Derived.Test.YtphlpipbhaiijaaNearV
import Derived.Deep.DeepCutAuto
import Derived.Deep.RegionHeld3
namespace Go.Proofs.Ytphlpipbhaiijaa.rens
open Go.RowKit P2 words edges ints good near adjs fns gws sets rets mids nearv each func put
set_option linter.unusedVariables false

set_option maxHeartbeats 1000000 in
theorem index_any (u : Value) (xs : List Int) (x : Int) (w : World) (hu : Ints w u xs) (hxl : xs.length ≤ 1048576) :
    Calls Try.prog 155 #[u, .int .i64 x] w fun e w' => e = .returned (.int .i64 (idxI xs x)) ∧ w = w' := by
  obtain ⟨A2, c2, rfl, hc⟩ := hu.form
  have HC := Lib.hid hc
  clear hu hc
  go_enter Try.func155, Try.ntmps155
  go_wp2_with fail
  go_loop [8] (fun i => ∃ k : Nat, k ≤ xs.length ∧ i = .int .i64 (k : Int) ∧ Hid (∀ j y, j < k → xs[j]? = some y → (y == x) = false)) (fun i => xs.length - (intOf i).toNat)
  case atStart => exact ⟨0, by omega, rfl, fun j e h => by omega⟩
  case round =>
    obtain ⟨k, hk, rfl, hno⟩ := hrel
    by_cases hlt : k < xs.length
    · have hlt' : (k : Int) < (xs.length : Int) := by omega
      obtain ⟨y, hy⟩ : ∃ y, xs[k]? = some y := ⟨_, List.getElem?_eq_getElem hlt⟩
      obtain ⟨g, o, rfl, c0⟩ := HC.out k y hy
      cases hp : (y == x) with
      | true =>
        have HN := Lib.hid (idxF_at (p := fun y => y == x) hno.out hy hp)
        have hp2 : (x == y) = true := by rw [BEq.comm]; exact hp
        clear hy hp
        go_wp2_with fail
        go_ret
        exact ⟨ret_int HN.out.symm, rfl⟩
      | false =>
        have HK := Lib.hid (func.no_succ (p := fun y => y == x) hno.out hy hp)
        have hp2 : (x == y) = false := by rw [BEq.comm]; exact hp
        clear hy hp
        go_wp2_with fail
        go_round
        case rel => exact ⟨k + 1, by omega, by go_num, HK⟩
        case measure => simp [intOf]; omega
    · obtain rfl : k = xs.length := by omega
      have HN := Lib.hid (idxF_none hno.out)
      go_wp2_with fail
      go_ret
      exact ⟨ret_int HN.out.symm, rfl⟩
theorem idx_in64 {n : Nat} {tl : List Int} (h : EachS n tl) (hn : n ≤ 8) (x : Nat) (hx : x < n) : In64 (idxI tl (x : Int)) := by
  have := idx_at h (x := x) (by omega) (by omega)
  unfold In64; omega

end Go.Proofs.Ytphlpipbhaiijaa.rens
