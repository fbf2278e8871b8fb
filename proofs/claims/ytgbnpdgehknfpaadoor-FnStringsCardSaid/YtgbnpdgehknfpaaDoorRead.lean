/- The contracts of the model's ParseInt. -/
import Derived.Test.YtgbnpdgehknfpaaDoorNums
import Derived.Test.YtgbnpdgehknfpaaDoorNumerals
import Derived.Deep.DeepCutAuto
import Derived.Lib.Strings
namespace Go.Proofs.YtgbnpdgehknfpaaDoor.read
open Go.RowKit P1 P2 nums

theorem step_val (t : ByteArray) (u k m : Nat) (ht : t.data.toList = Lib.decDigits u) (hk : k < t.size) (hm : Lib.decFrom 0 (t.data.toList.take k) = some m) :
    48 ≤ (t[k].toNat : Int) ∧ (t[k].toNat : Int) ≤ 57 ∧ Lib.decFrom 0 (t.data.toList.take (k + 1)) = some (m * 10 + (t[k].toNat - 48)) := by
  have hb : t.data.toList[k]? = some t[k] := by
    rw [List.getElem?_eq_getElem (by rw [← size_list]; exact hk)]
    rfl
  have hd := decDigits_digit u t[k] (by rw [← ht]; exact List.mem_of_getElem? hb)
  refine ⟨by omega, by omega, Lib.decFrom_take _ k 0 m t[k] _ hm hb ?_⟩
  unfold Lib.digitVal
  rw [if_pos hd]

theorem val_lt (l : List UInt8) (m : Nat) (h : Lib.decFrom 0 l = some m) (hl : l.length ≤ 6) : m ≤ 999999 := by
  have := Lib.decFrom_lt l 0 m h
  have h2 : 10 ^ l.length ≤ 10 ^ 6 := Nat.pow_le_pow_right (by decide) hl
  simp at this h2
  omega

set_option maxHeartbeats 800000 in
theorem l1Read_yes (s : ByteArray) (n : Int) (w : World) (hs : s.size ≤ 1048576) (h : Spells s.data.toList n) :
    Calls Tryd.prog 29 #[.string s] w fun e w' => e = .returned (.tuple #[.int .i64 n, .bool true]) ∧ ∃ m, w' = w.drewN m := by
  obtain ⟨u, hu, ht, hn⟩ := spells_tail h
  have hlen := decDigits_len u hu
  have ht1 : 1 ≤ (tailOf s).size := by rw [size_list, ht]; omega
  have ht6 : (tailOf s).size ≤ 6 := by rw [size_list, ht]; omega
  have HT := Lib.hid ht
  have HN := Lib.hid hn
  have HI := Lib.hid h
  clear ht hn h
  go_enter Tryd.func29, Tryd.ntmps29
  go_upto_region 2 with fail
  go_cut [15] (fun b wx => b = .bool (minusB s) ∧ wx = w)
  case first =>
    by_cases h1 : 1 < s.size
    · by_cases h2 : s[0]'(by omega) = 45
      · have hb := Lib.hid (minusB_yes s h1 h2)
        have d1 : decide (1 < (s.size : Int)) = true := by simp; omega
        have d2 : (((s[0]'(by omega)).toNat : Int) == 45) = true := by rw [h2]; rfl
        have H2 := Lib.hid h2
        clear h2
        go_wp2_with fail
        go_meet
        exact ⟨by rw [hb.out], rfl⟩
      · have hb := Lib.hid (minusB_no2 s (by omega) h2)
        have d1 : decide (1 < (s.size : Int)) = true := by simp; omega
        have d2 : (((s[0]'(by omega)).toNat : Int) == 45) = false := by
          rw [beq_eq_false_iff_ne]
          intro e
          exact h2 (UInt8.toNat_inj.1 (by have e2 : (45 : UInt8).toNat = 45 := rfl; omega))
        have H2 := Lib.hid h2
        clear h2
        go_wp2_with fail
        go_meet
        exact ⟨by rw [hb.out], rfl⟩
    · have hb := Lib.hid (minusB_no1 s h1)
      have d1 : decide (1 < (s.size : Int)) = false := by simp; omega
      go_wp2_with fail
      go_meet
      exact ⟨by rw [hb.out], rfl⟩
  case rest =>
    obtain ⟨rfl, rfl⟩ := hcut
    go_upto_if 15 with fail
    go_cut [4] (fun t wx => t = .string (tailOf s) ∧ wx = wc)
    case first =>
      cases hb : minusB s
      · have H := Lib.hid (tailOf_no s hb)
        go_wp2_with fail
        go_meet
        exact ⟨by rw [H.out], rfl⟩
      · have H := Lib.hid (tailOf_yes s hb)
        have hs1 : 1 ≤ (s.size : Int) := by have := tail_size_yes s hb; omega
        go_wp2_with fail
        go_meet
        exact ⟨by rw [H.out], rfl⟩
    case rest =>
      obtain ⟨rfl, rfl⟩ := hcut
      have hle : (tailOf s).size ≤ s.size := by
        cases hb : minusB s
        · rw [tail_size_no s hb]; omega
        · have := tail_size_yes s hb; omega
      have hneg := Lib.hid (show (minusB s = true → (tailOf s).size + 1 = s.size) ∧ (minusB s = false → (tailOf s).size = s.size) from ⟨tail_size_yes s, tail_size_no s⟩)
      generalize tailOf s = t at *
      go_wp2_with (go_at_call 24; refine (l1In_yes _ _ _ _ (by omega) (by omega)).mono ?_; rintro e w' ⟨rfl, rfl⟩)
      go_loop [5, 6] (fun v i => ∃ k m : Nat, k ≤ t.size ∧ i = .int .i64 k ∧ v = .int .i64 (m : Int) ∧ m ≤ 999999 ∧ Hid (Lib.decFrom 0 (t.data.toList.take k) = some m)) (fun _ i => t.size - (intOf i).toNat)
      case atStart => exact ⟨0, 0, Nat.zero_le _, rfl, rfl, by omega, rfl⟩
      case round =>
        obtain ⟨k, m, hk, rfl, rfl, hm6, hm⟩ := hrel
        by_cases hlt : k < t.size
        · obtain ⟨b0, b1, hstep⟩ := step_val t u k m HT.out hlt hm.out
          have HS := Lib.hid hstep
          have hm' : m * 10 + (t[k].toNat - 48) ≤ 999999 := val_lt _ _ hstep (by rw [List.length_take]; omega)
          have hsub : IntKind.u8.wrap ((t[k].toNat : Int) - 48) = (t[k].toNat : Int) - 48 := by simp [IntKind.wrap, IntKind.signed, IntKind.bits]; omega
          clear hstep
          go_wp2
          go_round
          case rel => exact ⟨k + 1, m * 10 + (t[k].toNat - 48), by omega, by go_num, by go_num, hm', HS.out⟩
          case measure => simp [intOf]; omega
        · have hv : Hid (m = u) := by
            have h1 := hm.out
            rw [List.take_of_length_le (by rw [← size_list]; omega), HT.out, decFrom_decDigits] at h1
            exact (Option.some.inj h1).symm
          have hsp := HI.out
          have HT2 : Hid ((⟨(Lib.itoa n).toArray⟩ : ByteArray) = s) := by
            show _ = _
            rw [hsp.2.2]
          obtain ⟨hn0, hn1, -⟩ := hsp
          rcases HN.out with ⟨hb, hn⟩ | ⟨hb, hn⟩
          · have hlt2 : (t.size : Int) < s.size := by have := hneg.out.1 hb; omega
            have e1 : -(m : Int) = n := by have := hv.out; omega
            have e2 : IntKind.i64.wrap (-(m : Int)) = n := by rw [e1, IntWalk.i64_in _ (by omega)]
            clear hb hn
            go_wp2_with (go_at_call 25; refine (l1Num_any n _ (by omega) (by omega)).mono ?_; rintro e w' ⟨rfl, m', rfl⟩; rw [HT2.out])
            go_ret2
            exact ⟨rfl, _, rfl⟩
          · have hlt2 : ¬ (t.size : Int) < s.size := by have := hneg.out.2 hb; omega
            have e1 : (m : Int) = n := by have := hv.out; omega
            clear hb hn
            go_wp2_with (go_at_call 25; refine (l1Num_any n _ (by omega) (by omega)).mono ?_; rintro e w' ⟨rfl, m', rfl⟩; rw [HT2.out])
            go_ret2
            exact ⟨rfl, _, rfl⟩

theorem str_ne {a b : ByteArray} (h : a.data.toList ≠ b.data.toList) : (a.toList == b.toList) = false := by
  rw [Lib.toList_data, Lib.toList_data, beq_eq_false_iff_ne]; exact h
theorem itoa_ne {s : ByteArray} {v : Int} (h : ∀ n, ¬ Spells s.data.toList n) (h0 : -999999 ≤ v) (h1 : v ≤ 999999) : ((⟨(Lib.itoa v).toArray⟩ : ByteArray).toList == s.toList) = false :=
  str_ne fun e => h v ⟨h0, h1, e⟩

set_option maxHeartbeats 800000 in
theorem l1Read_no (s : ByteArray) (w : World) (hs : s.size ≤ 1048576) (h : ∀ n, ¬ Spells s.data.toList n) :
    Calls Tryd.prog 29 #[.string s] w fun e w' => e = .returned (.tuple #[.int .i64 0, .bool false]) ∧ ∃ m, w' = w.drewN m := by
  have HI := Lib.hid h
  clear h
  go_enter Tryd.func29, Tryd.ntmps29
  go_upto_region 2 with fail
  go_cut [15] (fun b wx => b = .bool (minusB s) ∧ wx = w)
  case first =>
    by_cases h1 : 1 < s.size
    · by_cases h2 : s[0]'(by omega) = 45
      · have hb := Lib.hid (minusB_yes s h1 h2)
        have d1 : decide (1 < (s.size : Int)) = true := by simp; omega
        have d2 : (((s[0]'(by omega)).toNat : Int) == 45) = true := by rw [h2]; rfl
        have H2 := Lib.hid h2
        clear h2
        go_wp2_with fail
        go_meet
        exact ⟨by rw [hb.out], rfl⟩
      · have hb := Lib.hid (minusB_no2 s (by omega) h2)
        have d1 : decide (1 < (s.size : Int)) = true := by simp; omega
        have d2 : (((s[0]'(by omega)).toNat : Int) == 45) = false := by
          rw [beq_eq_false_iff_ne]
          intro e
          exact h2 (UInt8.toNat_inj.1 (by have e2 : (45 : UInt8).toNat = 45 := rfl; omega))
        have H2 := Lib.hid h2
        clear h2
        go_wp2_with fail
        go_meet
        exact ⟨by rw [hb.out], rfl⟩
    · have hb := Lib.hid (minusB_no1 s h1)
      have d1 : decide (1 < (s.size : Int)) = false := by simp; omega
      go_wp2_with fail
      go_meet
      exact ⟨by rw [hb.out], rfl⟩
  case rest =>
    obtain ⟨rfl, rfl⟩ := hcut
    go_upto_if 15 with fail
    go_cut [4] (fun t wx => t = .string (tailOf s) ∧ wx = wc)
    case first =>
      cases hb : minusB s
      · have H := Lib.hid (tailOf_no s hb)
        go_wp2_with fail
        go_meet
        exact ⟨by rw [H.out], rfl⟩
      · have H := Lib.hid (tailOf_yes s hb)
        have hs1 : 1 ≤ (s.size : Int) := by have := tail_size_yes s hb; omega
        go_wp2_with fail
        go_meet
        exact ⟨by rw [H.out], rfl⟩
    case rest =>
      obtain ⟨rfl, rfl⟩ := hcut
      have hle : (tailOf s).size ≤ s.size := by
        cases hb : minusB s
        · rw [tail_size_no s hb]; omega
        · have := tail_size_yes s hb; omega
      generalize tailOf s = t at *
      by_cases hin : (1 : Int) ≤ t.size ∧ (t.size : Int) ≤ 6
      case neg =>
        have HN := Lib.hid (show (t.size : Int) < 1 ∨ 6 < (t.size : Int) by omega)
        clear hin
        go_wp2_with (go_at_call 24; refine (l1In_no _ _ _ _ HN.out).mono ?_; rintro e w' ⟨rfl, rfl⟩)
        go_ret2
        exact ⟨rfl, 0, rfl⟩
      obtain ⟨ht1, ht6⟩ := hin
      go_wp2_with (go_at_call 24; refine (l1In_yes _ _ _ _ ht1 ht6).mono ?_; rintro e w' ⟨rfl, rfl⟩)
      go_loop [5, 6] (fun v i => ∃ k m : Nat, k ≤ t.size ∧ i = .int .i64 k ∧ v = .int .i64 (m : Int) ∧ m ≤ 999999 ∧ Hid (m < 10 ^ k)) (fun _ i => t.size - (intOf i).toNat)
      case atStart => exact ⟨0, 0, Nat.zero_le _, rfl, rfl, by omega, Nat.one_pos⟩
      case round =>
        obtain ⟨k, m, hk, rfl, rfl, hm6, hm⟩ := hrel
        by_cases hlt : k < t.size
        · by_cases hd0 : (t[k].toNat : Int) < 48
          · go_wp2
            go_ret2
            exact ⟨rfl, 0, rfl⟩
          by_cases hd1 : 57 < (t[k].toNat : Int)
          · go_wp2
            go_ret2
            exact ⟨rfl, 0, rfl⟩
          have hd0' : (48 : Int) ≤ t[k].toNat := by omega
          have hd1' : (t[k].toNat : Int) ≤ 57 := by omega
          clear hd0 hd1
          have HS : Hid (m * 10 + (t[k].toNat - 48) < 10 ^ (k + 1)) := by
            have := hm.out
            show _ < _
            rw [Nat.pow_succ]; omega
          have hm' : m * 10 + (t[k].toNat - 48) ≤ 999999 := by
            have h1 := HS.out
            have h2 : 10 ^ (k + 1) ≤ 10 ^ 6 := Nat.pow_le_pow_right (by decide) (by omega)
            simp at h2
            omega
          have hsub : IntKind.u8.wrap ((t[k].toNat : Int) - 48) = (t[k].toNat : Int) - 48 := by simp [IntKind.wrap, IntKind.signed, IntKind.bits]; omega
          go_wp2
          go_round
          case rel => exact ⟨k + 1, m * 10 + (t[k].toNat - 48), by omega, by go_num, by go_num, hm', HS⟩
          case measure => simp [intOf]; omega
        · by_cases hlt2 : (t.size : Int) < s.size
          · obtain ⟨v, e1⟩ : ∃ v : Int, -(m : Int) = v := ⟨_, rfl⟩
            have e2 : IntKind.i64.wrap (-(m : Int)) = v := by rw [e1, IntWalk.i64_in _ (by omega)]
            have HC := Lib.hid (itoa_ne (v := v) HI.out (by omega) (by omega))
            go_wp2_with (go_at_call 25; refine (l1Num_any v _ (by omega) (by omega)).mono ?_; rintro e w' ⟨rfl, m', rfl⟩; have hc := HC.out; generalize (⟨(Lib.itoa v).toArray⟩ : ByteArray) = t2 at hc ⊢)
            go_ret2
            exact ⟨rfl, _, rfl⟩
          · obtain ⟨v, e1⟩ : ∃ v : Int, (m : Int) = v := ⟨_, rfl⟩
            have HC := Lib.hid (itoa_ne (v := v) HI.out (by omega) (by omega))
            go_wp2_with (go_at_call 25; refine (l1Num_any v _ (by omega) (by omega)).mono ?_; rintro e w' ⟨rfl, m', rfl⟩; have hc := HC.out; generalize (⟨(Lib.itoa v).toArray⟩ : ByteArray) = t2 at hc ⊢)
            go_ret2
            exact ⟨rfl, _, rfl⟩

/-- ParseInt of the model -/
theorem specParseInt_yes (s : ByteArray) (n : Int) (w : World) (hs : s.size ≤ 1048576) (h : Spells s.data.toList n) :
    Calls Tryd.prog 14 #[.string s] w fun e w' => e = .returned (.tuple #[.int .i64 n, .bool true]) ∧ ∃ m, w' = w.drewN m := by
  have H := Lib.hid h
  clear h
  go_enter Tryd.func14, Tryd.ntmps14
  go_wp2_with (go_at_call 29; refine (l1Read_yes s n _ hs H.out).mono ?_; rintro e w' ⟨rfl, m, rfl⟩)
  go_ret2
  exact ⟨rfl, _, rfl⟩
theorem specParseInt_no (s : ByteArray) (w : World) (hs : s.size ≤ 1048576) (h : ∀ n, ¬ Spells s.data.toList n) :
    Calls Tryd.prog 14 #[.string s] w fun e w' => e = .returned (.tuple #[.int .i64 0, .bool false]) ∧ ∃ m, w' = w.drewN m := by
  have H := Lib.hid h
  clear h
  go_enter Tryd.func14, Tryd.ntmps14
  go_wp2_with (go_at_call 29; refine (l1Read_no s _ hs H.out).mono ?_; rintro e w' ⟨rfl, m, rfl⟩)
  go_ret2
  exact ⟨rfl, _, rfl⟩
end Go.Proofs.YtgbnpdgehknfpaaDoor.read
