/- The contracts of JoinStrings: of the program and of the model; and of the laws' helpers over its argument. -/
import Derived.Test.YtgbnpdgehknfpaaJoins
import Derived.Test.YtgbnpdgehknfpaaMarks
import Derived.Test.YtgbnpdgehknfpaaStands
import Derived.Deep.DeepCutAuto
namespace Go.Proofs.Ytgbnpdgehknfpaa.join
open Go.RowKit P1 P4 marks stands

theorem quiet_left {P : Program} {f : FuncId} {args : Array Value} {w : World} {n : Nat} {v : Value}
    (h : Calls P f args (w.drewN n) fun e w' => e = .returned v ∧ w.drewN n = w') : Calls P f args (w.drewN n) fun e w'' => e = .returned v ∧ ∃ m, w'' = w.drewN m :=
  h.mono fun _ _ ⟨he, hm⟩ => ⟨he, n, hm.symm⟩
theorem cat_run {P : Program} (a b : List UInt8) (h : a.length + b.length ≤ 9223372036854775807) (W : World) :
    (Op.stringOp .add ⟨a.toArray⟩ ⟨b.toArray⟩).run P W = .ok (.string ⟨(a ++ b).toArray⟩) W := by
  rw [run_string_add_sum W _ _ (by rw [show (⟨a.toArray⟩ : ByteArray).size = a.length from by simp [ByteArray.size], show (⟨b.toArray⟩ : ByteArray).size = b.length from by simp [ByteArray.size]]; exact h), bytes_app]
theorem of_list (s : ByteArray) : (⟨s.data.toList.toArray⟩ : ByteArray) = s := by apply ByteArray.ext; simp
theorem sz (l : List UInt8) : (⟨l.toArray⟩ : ByteArray).size = l.length := by simp [ByteArray.size]

theorem stands_as {x : ByteArray} {c : UInt8} {b : Bool} (hx : x.size ≤ maxLen) (h : hasB x.data.toList c = b) (W : World) :
    Calls Try.prog 31 #[.string x, .int .u8 (((⟨#[c]⟩ : ByteArray)[0]'(by show 0 < 1; decide)).toNat : Int)] W fun e w' => e = .returned (.bool b) ∧ W = w' := by
  have := l1Stands_any x ((((⟨#[c]⟩ : ByteArray)[0]'(by show 0 < 1; decide)).toNat : Int)) c W hx rfl
  rw [h] at this
  exact this

set_option maxHeartbeats 1000000 in
theorem specJoin_any (v : Value) (l : List ByteArray) (s : ByteArray) (c : UInt8) (w : World) (h : Txt w v l) (hs : s.data.toList = [c]) (h1 : 1 ≤ l.length) (hl : l.length ≤ 1048576) (ht : total l ≤ 1048576) :
    Calls Try.prog 13 #[v, .string s] w fun e w' => e = .returned (.tuple #[.string ⟨(outJoin l c).toArray⟩, .bool (okJoin l c)]) ∧ Below w.heap.size w w' := by
  obtain rfl : s = ⟨#[c]⟩ := by apply ByteArray.ext; apply Array.toList_inj.1; rw [hs]
  clear hs
  obtain ⟨A, cp, rfl, hx⟩ := h
  obtain ⟨g, o, rfl, hc⟩ := hx (by omega)
  have hl1 : ((l.length : Int) == 0) = false := by rw [beq_eq_false_iff_ne]; omega
  go_enter Try.func13, Try.ntmps13
  go_wp2_with fail
  go_loopw [6, 7] (fun t i wr => ∃ k : Nat, k ≤ l.length ∧ i = .int .i64 (k : Int) ∧ t = .string ⟨(joinN l c k).toArray⟩ ∧ (joinN l c k).length ≤ 4000 ∧ Hid (NoSep l c k) ∧ Below w.heap.size w wr)
    (fun _ i _ => l.length - (intOf i).toNat)
  case atStart => exact ⟨0, Nat.zero_le _, rfl, rfl, by simp [joinN], NoSep.zero l c, Below.refl _ _⟩
  case round =>
    obtain ⟨k, hk, rfl, rfl, hlen, hcl, hB⟩ := hrel
    by_cases hlt : k < l.length
    · obtain ⟨x, hx⟩ : ∃ x, l[k]? = some x := ⟨_, List.getElem?_eq_getElem hlt⟩
      have hcell0 := hc k x hx
      have hcell : wr.cell? ⟨g, o + k, none⟩ = some (.string x) := (hB.cell (p := ⟨g, o + k, none⟩) (World.block_lt_of_cell? w (a := ⟨g, o + k, none⟩) hcell0)).trans hcell0
      have hxs : x.size ≤ 1048576 := by have := total_at hx; omega
      have hxm : x.size ≤ maxLen := by unfold maxLen; omega
      have hlt' : (k : Int) < (l.length : Int) := by omega
      by_cases hm : c ∈ x.data.toList
      · have HY := Lib.hid (hasB_yes hm)
        have HO := Lib.hid (ok_mem hx hm)
        have HST := Lib.hid (stands_as hxm HY.out)
        clear hm hx hcell0 hc
        go_wp2_with fail
        go_quiet ((go_at_call 31; exact quiet_left (HST.out _)))
        go_wp2_with fail
        go_ret2
        exact ⟨by rw [out_no HO.out, HO.out]; rfl, below_drewN hB _⟩
      · have HY := Lib.hid (hasB_no hm)
        have HC := Lib.hid (hcl.out.succ hx hm)
        have hj := joinN_succ (c := c) hx
        have HST := Lib.hid (stands_as hxm HY.out)
        obtain ⟨y, hy⟩ : ∃ y : ByteArray, y = ⟨(joinN l c (k + 1)).toArray⟩ := ⟨_, rfl⟩
        have HYS : Hid (y.size = (joinN l c (k + 1)).length) := by show _ = _; rw [hy, sz]
        have HYV := Lib.hid hy
        clear hm hcell0 hc
        by_cases hk0 : k = 0
        · have hcat : ∀ W : World, (Op.stringOp .add ⟨(joinN l c k).toArray⟩ x).run Try.prog W = .ok (.string y) W := fun W => by
            have h0 := cat_run (P := Try.prog) (joinN l c k) x.data.toList (by have : x.data.toList.length = x.size := Array.length_toList; omega) W
            rw [of_list] at h0
            rw [h0, hy, hj, if_pos hk0, List.append_nil]
          have d0 : decide (0 < k) = false := by simp; omega
          have d0' : decide ((0 : Int) < (k : Int)) = false := by simp; omega
          clear hy hj hx hk0
          generalize (⟨(joinN l c k).toArray⟩ : ByteArray) = t at *
          go_wp2_with fail
          go_quiet ((go_at_call 31; exact quiet_left (HST.out _)))
          by_cases hlong : y.size ≤ 4000
          · have hl4 := Lib.hid (show (joinN l c (k + 1)).length ≤ 4000 by rw [← HYS.out]; exact hlong)
            go_wp2_with fail
            go_roundw
            case rel => exact ⟨k + 1, by omega, by go_num, by rw [HYV.out], hl4.out, HC, below_drewN hB _⟩
            case measure => simp [intOf]; omega
          · have HO := Lib.hid (ok_long (c := c) (show k + 1 ≤ l.length by omega) (by rw [← HYS.out]; omega))
            have hlong' : (4000 : Int) < y.size := by omega
            go_wp2_with fail
            go_ret2
            exact ⟨by rw [out_no HO.out, HO.out]; rfl, below_drewN hB _⟩
        · have hcat : ∀ W : World, (Op.stringOp .add ⟨(joinN l c k ++ [c]).toArray⟩ x).run Try.prog W = .ok (.string y) W := fun W => by
            have h0 := cat_run (P := Try.prog) (joinN l c k ++ [c]) x.data.toList (by have : x.data.toList.length = x.size := Array.length_toList; simp; omega) W
            rw [of_list] at h0
            rw [h0, hy, hj, if_neg hk0]
          have hcat1 : ∀ W : World, (Op.stringOp .add ⟨(joinN l c k).toArray⟩ ⟨#[c]⟩).run Try.prog W = .ok (.string ⟨(joinN l c k ++ [c]).toArray⟩) W :=
            cat_run (joinN l c k) [c] (by simp; omega)
          have d0 : decide (0 < k) = true := by simp; omega
          have d0' : 0 < k := by omega
          clear hy hj hx hk0
          generalize (⟨(joinN l c k).toArray⟩ : ByteArray) = t at *
          generalize (⟨(joinN l c k ++ [c]).toArray⟩ : ByteArray) = t1 at *
          go_wp2_with fail
          go_quiet ((go_at_call 31; exact quiet_left (HST.out _)))
          by_cases hlong : y.size ≤ 4000
          · have hl4 := Lib.hid (show (joinN l c (k + 1)).length ≤ 4000 by rw [← HYS.out]; exact hlong)
            go_wp2_with fail
            go_roundw
            case rel => exact ⟨k + 1, by omega, by go_num, by rw [HYV.out], hl4.out, HC, below_drewN hB _⟩
            case measure => simp [intOf]; omega
          · have HO := Lib.hid (ok_long (c := c) (show k + 1 ≤ l.length by omega) (by rw [← HYS.out]; omega))
            have hlong' : (4000 : Int) < y.size := by omega
            go_wp2_with fail
            go_ret2
            exact ⟨by rw [out_no HO.out, HO.out]; rfl, below_drewN hB _⟩
    · obtain rfl : k = l.length := by omega
      have HO := Lib.hid (ok_all hcl.out hlen)
      clear hc
      go_wp2_with fail
      go_ret2
      exact ⟨by rw [out_yes HO.out, HO.out]; rfl, hB⟩
end Go.Proofs.Ytgbnpdgehknfpaa.join
