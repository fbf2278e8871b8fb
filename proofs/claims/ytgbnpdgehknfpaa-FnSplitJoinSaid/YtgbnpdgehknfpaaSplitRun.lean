/- The contracts of SplitString: of the program and of the model. -/
import Derived.Test.YtgbnpdgehknfpaaPieces
import Derived.WalkLawsBesides
import Derived.WalkSpells
namespace Go.Proofs.Ytgbnpdgehknfpaa.split
open Go.RowKit P1 P3 pieces

theorem collect_any (Bs Bc : Nat) (s : ByteArray) (c : UInt8) (hs : s.size ≤ 4000) (w : World) (hBs : w.cell? ⟨Bs, 0, none⟩ = some (.string s)) (hBc : w.cell? ⟨Bc, 0, none⟩ = some (.int .u8 (c.toNat : Int))) :
    Calls Try.prog 27 #[.func (.func 36) #[] #[.pointer (some ⟨Bs, 0, none⟩), .pointer (some ⟨Bc, 0, none⟩)]] w fun e W' => ∃ v, e = .returned v ∧ W'.ownsRow w.heap.size 9 1 v (splitN s c).length ((splitN s c).map Value.string) ∧ Below w.heap.size w W' := by
  have HA := Lib.hid (callsIn_wide.1 (appendSeq_in 3 Bs Bc s c (by omega) hs w hBs hBc))
  go_enter Try.func27, Try.ntmps27
  go_wp2_with (go_at_call 35; refine HA.out.mono ?_; rintro e w1 ⟨v, rfl, hr, hb⟩)
  go_ret
  exact ⟨v, rfl, hr, hb⟩

/-- a slice of the call's own that holds texts -/
def Holds (w0 w : World) (v : Value) (l : List ByteArray) : Prop := ∃ B, w0.heap.size ≤ B ∧ w.ownsRow B 9 1 v l.length (l.map Value.string)

set_option maxHeartbeats 400000 in
theorem implSplit_yes (s sep : ByteArray) (c : UInt8) (w : World) (hs : s.size ≤ 4000) (h1 : sep.size = 1) (hc : sep.data.toList = [c]) :
    Calls Try.prog 10 #[.string s, .string sep] w fun e W' => ∃ v, e = .returned (.tuple #[v, .bool true]) ∧ Holds w W' v (splitN s c) ∧ Below w.heap.size w W' := by
  obtain rfl : sep = ⟨#[c]⟩ := by apply ByteArray.ext; apply Array.toList_inj.1; rw [hc]
  clear hc
  have d0 : decide (4000 < (s.size : Int)) = false := by simp; omega
  have hBs := Boxed.new w 9 (.string s)
  have hBc := Boxed.new (w.alloc (.cells #[.string s] 9)) 5 (.int .u8 (c.toNat : Int))
  rw [World.size_alloc] at hBc
  have HC := Lib.hid (collect_any w.heap.size (w.heap.size + 1) s c hs _ (hBs.alloc (.cells #[.int .u8 (c.toNat : Int)] 5)).cell hBc.cell)
  clear h1
  go_enter Try.func10, Try.ntmps10
  go_wp2_with (first | (go_at_call 28; refine (callsIn_wide.1 (piecesOf_in 3 s _ w)).mono ?_; rintro e w1 ⟨rfl, rfl⟩) | (go_at_call 27; refine HC.out.mono ?_; rintro e w2 ⟨v, rfl, hr, hb⟩))
  go_ret2
  refine ⟨v, rfl, ⟨_, ?_, hr⟩, ?_⟩
  · simp; omega
  · exact (((Below.refl w.heap.size w).alloc (Nat.le_refl _) _).alloc (by simp) _).trans (hb.mono (by simp; omega))

theorem implSplit_no (s sep : ByteArray) (w : World) (hs : s.size ≤ maxLen) (h : 4000 < s.size ∨ sep.size ≠ 1) :
    Calls Try.prog 10 #[.string s, .string sep] w fun e W' => e = .returned (.tuple #[.slice none 0 0, .bool false]) ∧ w = W' := by
  unfold maxLen at hs
  by_cases h4 : 4000 < s.size
  · have d0 : decide (4000 < (s.size : Int)) = true := by simp; omega
    clear h
    go_enter Try.func10, Try.ntmps10
    go_wp2_with fail
    go_ret2
    exact ⟨rfl, rfl⟩
  · have d0 : decide (4000 < (s.size : Int)) = false := by simp; omega
    have d1 : ((sep.size : Int) != 1) = true := by rw [bne_iff_ne]; omega
    clear h
    go_enter Try.func10, Try.ntmps10
    go_wp2_with fail
    go_ret2
    exact ⟨rfl, rfl⟩

set_option maxHeartbeats 1000000 in
theorem l1Split_any (s : ByteArray) (b : Int) (c : UInt8) (w : World) (hs : s.size ≤ 1048576) (hb : (c.toNat : Int) = b) :
    Calls Try.prog 32 #[.string s, .int .u8 b] w fun e W' => ∃ v, e = .returned v ∧ W'.ownsRow w.heap.size 9 1 v (splitN s c).length ((splitN s c).map Value.string) ∧ Below w.heap.size w W' := by
  have HB := Lib.hid hb
  clear hb
  obtain ⟨i0, hi, hz0, hz1, hz2⟩ := info_parts infoStr
  go_enter Try.func32, Try.ntmps32
  go_wp2
  go_loopw [5, 6, 7] (fun v st i wr => ∃ k : Nat, k ≤ s.size ∧ i = .int .i64 k ∧ st = .int .i64 ((cutN s c k).2 : Int) ∧ wr.ownsRow w.heap.size 9 1 v (cutN s c k).1.length ((cutN s c k).1.map Value.string) ∧ Below w.heap.size w wr)
    (fun _ _ i _ => s.size - (intOf i).toNat)
  case atStart => exact ⟨0, Nat.zero_le _, rfl, rfl, World.ownsRow_lit (size := 1) w #[] 0 (Nat.le_refl _) (Nat.zero_le _) rfl, (Below.refl _ _).alloc (Nat.le_refl _) _⟩
  case round =>
    obtain ⟨k, hk, rfl, rfl, hrow, hB⟩ := hrel
    have hfk := cutN_from s c k
    have hpl := cutN_len s c k
    by_cases hlt : k < s.size
    · by_cases hc : s[k] = c
      · have HH := Lib.hid (cutN_hit s c k hlt hc)
        have d1 : ((s[k].toNat : Int) == b) = true := by rw [hc, HB.out]; simp
        clear hc
        generalize cutN s c k = pf at *
        obtain ⟨pre, f⟩ := pf
        simp only at hfk hpl hrow HH ⊢
        go_wp2_with (at_builtin; refine wpList_append_own _ rfl _ _ 26 rfl w.heap.size 9 i0 (.string ⟨#[]⟩) 1 16 Try.underlying26 hi hz0 hz1 hz2 rfl (by decide) _ _ _ rfl (hrow.alloc _) ⟨wr.heap.size, 0, none⟩ 1 1 [.string (s.extract f k)] rfl rfl (cell_one_new _ _ _) (by simp [Value.oneCell']) (by unfold maxLen; omega) (by omega) (by have := hB.size; simp; omega) ?_; intro v' w1 hown' hgrow _)
        have hb2 : Below w.heap.size w w1 := (hB.alloc (by have := hB.size; omega) _).grown hgrow (by have := hB.size; simp; omega) (fun j e => (hrow.lt j e).1)
        clear hrow hgrow
        go_roundw
        case rel => exact ⟨k + 1, by omega, by go_num, by rw [HH.out]; go_num, by rw [HH.out]; simpa using hown', hb2⟩
        case measure => simp [intOf]; omega
      · have HH := Lib.hid (cutN_miss s c k hlt hc)
        have d1 : ((s[k].toNat : Int) == b) = false := by
          rw [← HB.out, beq_eq_false_iff_ne]
          intro e
          exact hc (UInt8.toNat_inj.1 (by omega))
        clear hc
        go_wp2
        go_roundw
        case rel => exact ⟨k + 1, by omega, by go_num, by rw [HH.out], by rw [HH.out]; exact hrow, hB⟩
        case measure => simp [intOf]; omega
    · obtain rfl : k = s.size := by omega
      have HH : Hid (splitN s c = (cutN s c s.size).1 ++ [s.extract (cutN s c s.size).2 s.size]) := rfl
      generalize cutN s c s.size = pf at *
      obtain ⟨pre, f⟩ := pf
      simp only at hfk hpl hrow HH ⊢
      go_wp2_with (at_builtin; refine wpList_append_own _ rfl _ _ 26 rfl w.heap.size 9 i0 (.string ⟨#[]⟩) 1 16 Try.underlying26 hi hz0 hz1 hz2 rfl (by decide) _ _ _ rfl (hrow.alloc _) ⟨wr.heap.size, 0, none⟩ 1 1 [.string (s.extract f s.size)] rfl rfl (cell_one_new _ _ _) (by simp [Value.oneCell']) (by unfold maxLen; omega) (by omega) (by have := hB.size; simp; omega) ?_; intro v' w1 hown' hgrow _)
      have hb2 : Below w.heap.size w w1 := (hB.alloc (by have := hB.size; omega) _).grown hgrow (by have := hB.size; simp; omega) (fun j e => (hrow.lt j e).1)
      go_ret
      exact ⟨v', rfl, by rw [HH.out]; simpa using hown', hb2⟩

theorem specSplit_yes (s sep : ByteArray) (c : UInt8) (w : World) (hs : s.size ≤ 4000) (hc : sep.data.toList = [c]) :
    Calls Try.prog 17 #[.string s, .string sep] w fun e W' => ∃ v, e = .returned (.tuple #[v, .bool true]) ∧ Holds w W' v (splitN s c) ∧ Below w.heap.size w W' := by
  obtain rfl : sep = ⟨#[c]⟩ := by apply ByteArray.ext; apply Array.toList_inj.1; rw [hc]
  clear hc
  have d0 : decide (4000 < (s.size : Int)) = false := by simp; omega
  have hs2 : s.size ≤ 1048576 := by omega
  go_enter Try.func17, Try.ntmps17
  go_wp2_with (go_at_call 32; refine (l1Split_any s _ c _ hs2 rfl).mono ?_; rintro e w1 ⟨v, rfl, hr, hb⟩)
  go_ret2
  exact ⟨v, rfl, ⟨_, Nat.le_refl _, hr⟩, hb⟩

theorem specSplit_no (s sep : ByteArray) (w : World) (hs : s.size ≤ maxLen) (h : 4000 < s.size ∨ sep.size ≠ 1) :
    Calls Try.prog 17 #[.string s, .string sep] w fun e W' => ∃ v, e = .returned (.tuple #[v, .bool false]) ∧ Holds w W' v [] ∧ Below w.heap.size w W' := by
  unfold maxLen at hs
  have hO := World.ownsRow_lit (base := w.heap.size) (e := 9) (size := 1) w #[] 0 (Nat.le_refl _) (Nat.zero_le _) rfl
  by_cases h1 : sep.size = 1
  · have d0 : decide (4000 < (s.size : Int)) = true := by simp; omega
    have d1 : ((sep.size : Int) != 1) = false := by simp [h1]
    clear h h1
    go_enter Try.func17, Try.ntmps17
    go_wp2_with fail
    go_ret2
    exact ⟨_, rfl, ⟨_, Nat.le_refl _, hO⟩, (Below.refl _ _).alloc (Nat.le_refl _) _⟩
  · have d1 : ((sep.size : Int) != 1) = true := by rw [bne_iff_ne]; omega
    clear h h1
    go_enter Try.func17, Try.ntmps17
    go_wp2_with fail
    go_ret2
    exact ⟨_, rfl, ⟨_, Nat.le_refl _, hO⟩, (Below.refl _ _).alloc (Nat.le_refl _) _⟩
end Go.Proofs.Ytgbnpdgehknfpaa.split
