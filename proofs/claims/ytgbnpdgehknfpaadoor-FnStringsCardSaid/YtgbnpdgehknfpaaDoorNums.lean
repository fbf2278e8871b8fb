/- The contracts of decimals: the model's l1Num, l1In, FormatInt. -/
import Derived.Test.YtgbnpdgehknfpaaDoorProg
import Derived.Test.YtgbnpdgehknfpaaDoorPlain
import Derived.WalkKit
import Derived.WalkLawsBesides
import Derived.WalkSpells
import Derived.Deep.QuietTactic
import Derived.BigQuiet
import Derived.IntWalk
import Derived.Laws.Concat
import Derived.Lib.ItoaNum
import Derived.Lib.ItoaMem
namespace Go.Proofs.YtgbnpdgehknfpaaDoor.nums
open Go.RowKit P1

def Quiet (w w' : World) : Prop := ∃ m, w' = w.drewN m

theorem decDigits_small (u : Nat) (h : u < 10) : (⟨#[48, 49, 50, 51, 52, 53, 54, 55, 56, 57]⟩ : ByteArray).extract u (u + 1) = ⟨(Lib.decDigits u).toArray⟩ := by
  rw [digit_piece u h, Lib.decDigits_one h]
theorem decDigits_big (u : Nat) (h : ¬ u < 10) : Lib.decDigits u = Lib.decDigits (u / 10) ++ [UInt8.ofNat (48 + u % 10)] := by
  rw [Lib.decDigits, dif_neg h]

theorem decDigits_length_le (u : Nat) : (Lib.decDigits u).length ≤ u + 1 := by
  induction u using Nat.strongRecOn with
  | _ u ih =>
    by_cases h : u < 10
    · rw [Lib.decDigits_one h]; simp
    · rw [decDigits_big u h, List.length_append]
      have := ih (u / 10) (by omega)
      simp; omega

/-- a string put together out of two lists of bytes -/
theorem run_cat {P : Program} (a b : List UInt8) (h : a.length + b.length ≤ 9223372036854775807) (W : World) :
    (Op.stringOp .add ⟨a.toArray⟩ ⟨b.toArray⟩).run P W = .ok (.string ⟨(a ++ b).toArray⟩) W := by
  rw [run_string_add_sum W _ _ (by rw [show (⟨a.toArray⟩ : ByteArray).size = a.length from by simp [ByteArray.size], show (⟨b.toArray⟩ : ByteArray).size = b.length from by simp [ByteArray.size]]; exact h), bytes_app]

set_option maxHeartbeats 400000 in
theorem l1Num_nat (k : Nat) : ∀ (u : Nat) (w : World), u ≤ k → (u : Int) ≤ 9223372036854775 →
    Calls Tryd.prog 25 #[.int .i64 (u : Int)] w fun e w' => e = .returned (.string ⟨(Lib.decDigits u).toArray⟩) ∧ ∃ m, w' = w.drewN m := by
  induction k with
  | zero =>
    intro u w hk _
    obtain rfl : u = 0 := by omega
    go_enter Tryd.func25, Tryd.ntmps25
    go_wp2_with fail
    go_ret
    exact ⟨congrArg (fun x => Ending.returned (.string x)) (decDigits_small 0 (by omega)), 0, rfl⟩
  | succ k ih =>
    intro u w hk hb
    by_cases hs : u < 10
    · have h10 : (u : Int) < 10 := by omega
      go_enter Tryd.func25, Tryd.ntmps25
      go_wp2_with fail
      go_ret
      exact ⟨congrArg (fun x => Ending.returned (.string x)) (decDigits_small u hs), 0, rfl⟩
    · have h10 : 10 ≤ (u : Int) := by omega
      obtain ⟨d, hd⟩ : ∃ d, d = u / 10 := ⟨_, rfl⟩
      obtain ⟨r, hr⟩ : ∃ r, r = u % 10 := ⟨_, rfl⟩
      have hq : IntKind.i64.wrap ((u : Int) / 10) = (d : Int) := by rw [IntWalk.i64_in _ (by omega)]; omega
      have hm : (u : Int).tmod 10 = (r : Int) := by rw [Int.tmod_eq_emod_of_nonneg (by omega)]; omega
      have hr1 : (r : Int) + 1 ≤ 10 := by omega
      have hr0 : r < 10 := by omega
      have hs1 : IntKind.i64.wrap ((r : Int) + 1) = (r : Int) + 1 := IntWalk.i64_in _ (by omega)
      have hd1 : d ≤ k := by omega
      have hd2 : (d : Int) ≤ 9223372036854775 := by omega
      obtain ⟨c, hc⟩ : ∃ c, c = UInt8.ofNat (48 + r) := ⟨_, rfl⟩
      have HE : Hid (Lib.decDigits u = Lib.decDigits d ++ [c]) := by rw [hc, hd, hr]; exact decDigits_big u hs
      have hcat : ∀ W : World, (Op.stringOp .add ⟨(Lib.decDigits d).toArray⟩ ⟨#[c]⟩).run Tryd.prog W = .ok (.string ⟨(Lib.decDigits d ++ [c]).toArray⟩) W :=
        run_cat _ [c] (by have := decDigits_length_le d; simp; omega)
      have hsl : ∀ W : World, (Instr.slice 9 (.string ⟨#[48, 49, 50, 51, 52, 53, 54, 55, 56, 57]⟩) (some (.int .i64 (r : Int))) (some (.int .i64 ((r : Int) + 1))) none).run Tryd.prog W = .ok (.string ⟨#[c]⟩) W := fun W => by
        rw [run_slice_string (P := Tryd.prog) (w := W) 9 _ .i64 .i64 (r : Int) ((r : Int) + 1) Tryd.underlying9 (by omega) (by omega) (by show (r : Int) + 1 ≤ 10; omega)]
        rw [show ((r : Int) + 1).toNat = r + 1 from by omega, Int.toNat_natCast, digit_piece r hr0, hc]
      clear hd hr hc
      go_enter Tryd.func25, Tryd.ntmps25
      go_wp2_with fail
      go_quiet ((go_at_call 25; exact Calls.quiet_of (ih d _ hd1 hd2)))
      go_wp2_with fail
      go_ret
      exact ⟨congrArg (fun l : List UInt8 => Ending.returned (.string ⟨l.toArray⟩)) HE.out.symm, _, rfl⟩

/-- l1Num: the numeral of a number that is not too great, in bytes: Lib.itoa -/
theorem l1Num_any (n : Int) (w : World) (h0 : -9223372036854775 ≤ n) (h1 : n ≤ 9223372036854775) :
    Calls Tryd.prog 25 #[.int .i64 n] w fun e w' => e = .returned (.string ⟨(Lib.itoa n).toArray⟩) ∧ ∃ m, w' = w.drewN m := by
  by_cases hn : n < 0
  · obtain ⟨u, hu⟩ : ∃ u : Nat, n = -(u : Int) := ⟨n.natAbs, by omega⟩
    have hneg : IntKind.i64.wrap (-n) = (u : Int) := by rw [IntWalk.i64_in _ (by omega)]; omega
    have hneg2 : -n = (u : Int) := by omega
    have hb : (u : Int) ≤ 9223372036854775 := by omega
    have HE : Hid (Lib.itoa n = 45 :: Lib.decDigits u) := by rw [hu]; exact Lib.itoa_neg u (by omega)
    have hcat : ∀ W : World, (Op.stringOp .add ⟨#[45]⟩ ⟨(Lib.decDigits u).toArray⟩).run Tryd.prog W = .ok (.string ⟨([45] ++ Lib.decDigits u).toArray⟩) W :=
      run_cat [45] _ (by have := decDigits_length_le u; simp; omega)
    clear hu
    go_enter Tryd.func25, Tryd.ntmps25
    go_wp2_with (go_at_call 25; refine (l1Num_nat u u _ (by omega) hb).mono ?_; rintro e w' ⟨rfl, m, rfl⟩)
    go_ret
    exact ⟨congrArg (fun l : List UInt8 => Ending.returned (.string ⟨l.toArray⟩)) HE.out.symm, _, rfl⟩
  · obtain ⟨u, rfl⟩ : ∃ u : Nat, n = (u : Int) := ⟨n.toNat, by omega⟩
    rw [Lib.itoa_nonneg]
    exact l1Num_nat u u w (by omega) h1

theorem l1In_yes (x a b : Int) (w : World) (h0 : a ≤ x) (h1 : x ≤ b) :
    Calls Tryd.prog 24 #[.int .i64 x, .int .i64 a, .int .i64 b] w fun e w' => e = .returned (.bool true) ∧ w = w' := by
  have d0 : decide (a ≤ x) = true := by simpa using h0
  have d1 : decide (x ≤ b) = true := by simpa using h1
  go_enter Tryd.func24, Tryd.ntmps24
  go_wp2
  go_ret
  exact ⟨rfl, rfl⟩
theorem l1In_no (x a b : Int) (w : World) (h : x < a ∨ b < x) :
    Calls Tryd.prog 24 #[.int .i64 x, .int .i64 a, .int .i64 b] w fun e w' => e = .returned (.bool false) ∧ w = w' := by
  by_cases h0 : a ≤ x
  · have d0 : decide (a ≤ x) = true := by simpa using h0
    have d1 : decide (x ≤ b) = false := by simp; omega
    go_enter Tryd.func24, Tryd.ntmps24
    go_wp2
    go_ret
    exact ⟨rfl, rfl⟩
  · have d0 : decide (a ≤ x) = false := by simpa using h0
    clear h
    go_enter Tryd.func24, Tryd.ntmps24
    go_wp2
    go_ret
    exact ⟨rfl, rfl⟩

theorem specFormatInt_yes (n : Int) (w : World) (h0 : -999999 ≤ n) (h1 : n ≤ 999999) :
    Calls Tryd.prog 11 #[.int .i64 n] w fun e w' => e = .returned (.tuple #[.string ⟨(Lib.itoa n).toArray⟩, .bool true]) ∧ ∃ m, w' = w.drewN m := by
  go_enter Tryd.func11, Tryd.ntmps11
  go_wp2_with (first | (go_at_call 25; refine (l1Num_any n _ (by omega) (by omega)).mono ?_; rintro e w' ⟨rfl, m, rfl⟩) | (go_at_call 24; refine (l1In_yes n _ _ _ (by omega) (by omega)).mono ?_; rintro e w' ⟨rfl, rfl⟩))
  go_ret2
  exact ⟨rfl, _, rfl⟩

theorem specFormatInt_no (n : Int) (w : World) (h : n < -999999 ∨ 999999 < n) :
    Calls Tryd.prog 11 #[.int .i64 n] w fun e w' => e = .returned (.tuple #[.string ⟨#[]⟩, .bool false]) ∧ w = w' := by
  have H := Lib.hid h
  clear h
  go_enter Tryd.func11, Tryd.ntmps11
  go_wp2_with (go_at_call 24; refine (l1In_no n _ _ _ H.out).mono ?_; rintro e w' ⟨rfl, rfl⟩)
  go_ret2
  exact ⟨rfl, rfl⟩

end Go.Proofs.YtgbnpdgehknfpaaDoor.nums
