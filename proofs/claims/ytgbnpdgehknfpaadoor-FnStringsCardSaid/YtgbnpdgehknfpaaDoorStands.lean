/- The contract of the model's l1Stands: whether a byte stands in a text. -/
import Derived.Test.YtgbnpdgehknfpaaDoorProg
import Derived.Test.YtgbnpdgehknfpaaDoorPlain
import Derived.WalkKit
import Derived.WalkLawsBesides
namespace Go.Proofs.YtgbnpdgehknfpaaDoor.stands
open Go.RowKit P1

def hasB (l : List UInt8) (c : UInt8) : Bool := decide (c ∈ l)
theorem hasB_yes {l : List UInt8} {c : UInt8} (h : c ∈ l) : hasB l c = true := by simp [hasB, h]
theorem hasB_no {l : List UInt8} {c : UInt8} (h : c ∉ l) : hasB l c = false := by simp [hasB, h]

theorem notin_take (s : ByteArray) (k : Nat) (c : UInt8) (hk : k < s.size) (h : c ∉ s.data.toList.take k) (hc : s[k] ≠ c) : c ∉ s.data.toList.take (k + 1) := by
  rw [take_snoc s k hk, List.mem_append]
  rintro (h1 | h1)
  · exact h h1
  · simp at h1; exact hc h1.symm
theorem getElem_mem_list (s : ByteArray) (k : Nat) (hk : k < s.size) : s[k] ∈ s.data.toList := by
  have : s[k] = s.data.toList[k]'(by simpa using hk) := rfl
  rw [this]; exact List.getElem_mem _

set_option maxHeartbeats 400000 in
theorem l1Stands_any (s : ByteArray) (b : Int) (c : UInt8) (w : World) (hs : s.size ≤ maxLen) (hb : (c.toNat : Int) = b) :
    Calls Tryd.prog 33 #[.string s, .int .u8 b] w fun e w' => e = .returned (.bool (hasB s.data.toList c)) ∧ w = w' := by
  unfold maxLen at hs
  have HB := Lib.hid hb
  clear hb
  go_enter Tryd.func33, Tryd.ntmps33
  go_wp2
  go_loop [5] (fun i => ∃ k : Nat, k ≤ s.size ∧ i = .int .i64 k ∧ Hid (c ∉ s.data.toList.take k)) (fun i => s.size - (intOf i).toNat)
  case atStart => exact ⟨0, Nat.zero_le _, rfl, by show _ ∉ _; simp⟩
  case round =>
    obtain ⟨k, hk, rfl, hn⟩ := hrel
    by_cases hlt : k < s.size
    · by_cases hc : s[k] = c
      · have HY := Lib.hid (hasB_yes (l := s.data.toList) (c := c) (by rw [← hc]; exact getElem_mem_list s k hlt))
        have d1 : ((s[k].toNat : Int) == b) = true := by rw [hc, HB.out]; simp
        clear hc
        go_wp2
        go_ret
        exact ⟨ret_bool HY.out.symm, rfl⟩
      · have HN := Lib.hid (notin_take s k c hlt hn.out hc)
        have d1 : ((s[k].toNat : Int) == b) = false := by
          rw [← HB.out, beq_eq_false_iff_ne]
          intro e
          exact hc (UInt8.toNat_inj.1 (by omega))
        clear hc
        go_wp2
        go_round
        case rel => exact ⟨k + 1, by omega, by go_num, HN⟩
        case measure => simp [intOf]; omega
    · have HN : Hid (hasB s.data.toList c = false) := by
        have := hn.out
        rw [List.take_of_length_le (by simp; omega)] at this
        exact hasB_no this
      go_wp2
      go_ret
      exact ⟨ret_bool HN.out.symm, rfl⟩
end Go.Proofs.YtgbnpdgehknfpaaDoor.stands
