/- The contracts of VerifyChecksum: of the program and of the model. -/
import Derived.Test.YtgbnpdgehknfpaaDoorCuts
import Derived.Test.YtgbnpdgehknfpaaDoorSeals
namespace Go.Proofs.YtgbnpdgehknfpaaDoor.verify
open Go.RowKit P1 P2 P3 nums fmt sums stands seals cuts

/-- the text is sealed -/
def Sealed (s : ByteArray) : Prop := s.size ≤ 4000 ∧ sealB (headB s.data.toList 35) = s.data.toList
def headS (s : ByteArray) : ByteArray := ⟨(headB s.data.toList 35).toArray⟩
theorem headS_list (s : ByteArray) : (headS s).data.toList = headB s.data.toList 35 := by simp [headS]
theorem headS_size (s : ByteArray) : (headS s).size ≤ s.size := by
  rw [size_list, size_list s, headS_list]; exact headB_len _ _
theorem seal_eq {s y : ByteArray} (hy : y.data.toList = sealB (headS s).data.toList) (h : sealB (headB s.data.toList 35) = s.data.toList) : y = s := by
  apply ByteArray.ext; apply Array.toList_inj.1; rw [hy, headS_list, h]
theorem seal_ne {s y : ByteArray} (hy : y.data.toList = sealB (headS s).data.toList) (h : ¬ sealB (headB s.data.toList 35) = s.data.toList) : (y.toList == s.toList) = false := by
  rw [beq_eq_false_iff_ne, Lib.toList_data, Lib.toList_data, hy, headS_list]; exact h

theorem first_cell {w : World} {B : Nat} {v : Value} {l : List ByteArray} {x : ByteArray} (h : w.ownsRow B 9 1 v l.length (l.map Value.string)) (hx : l[0]? = some x) (hl : l.length ≤ 1048577) :
    ∃ g n cap, v = .slice (some ⟨g, 0, none⟩) n cap ∧ 0 < n ∧ n ≤ 1048577 ∧ w.cell? ⟨g, 0, none⟩ = some (.string x) := by
  have h0 : 0 < l.length := (List.getElem?_eq_some_iff.1 hx).1
  rcases h.2 with ⟨rfl, h1⟩ | ⟨g, cap, cur, rfl, _, _, _⟩
  · omega
  · exact ⟨g, l.length, cap, rfl, h0, hl, by rw [h.cellAt 0 (by omega), List.getElem?_map, hx]; rfl⟩
theorem l1Split_head (s : ByteArray) (w : World) (hs : s.size ≤ 1048576) :
    Calls Tryd.prog 36 #[.string s, .int .u8 35] w fun e W' => ∃ g n cap, e = .returned (.slice (some ⟨g, 0, none⟩) n cap) ∧ 0 < n ∧ n ≤ 1048577 ∧ W'.cell? ⟨g, 0, none⟩ = some (.string (headS s)) ∧ Below w.heap.size w W' :=
  (l1Split_any s 35 35 w hs rfl).mono fun _ _ ⟨_, he, hr, hb⟩ => by
    obtain ⟨g, n, cap, hv, h⟩ := first_cell hr (split_head s 35) (by have := splitN_len s 35; omega)
    exact ⟨g, n, cap, by rw [he, hv], h.1, h.2.1, h.2.2, hb⟩

set_option maxHeartbeats 400000 in
theorem specVerify_yes (s : ByteArray) (w : World) (h : Sealed s) :
    Calls Tryd.prog 20 #[.string s] w fun e w' => e = .returned (.tuple #[.string (headS s), .bool true]) ∧ Below w.heap.size w w' := by
  obtain ⟨h4, he⟩ := h
  have d0 : decide (4000 < (s.size : Int)) = false := by simp; omega
  have hs2 : s.size ≤ 1048576 := by omega
  have hhs := headS_size s
  have HS := Lib.hid (l1Split_head s)
  have HL := Lib.hid (l1Seal_any (headS s))
  rw [show (⟨(sealB (headS s).data.toList).toArray⟩ : ByteArray) = s from seal_eq (by simp) he] at HL
  have hself : (s.toList == s.toList) = true := by simp
  have hself2 : (s.toList != s.toList) = false := by simp
  clear he
  generalize headS s = t at *
  go_enter Tryd.func20, Tryd.ntmps20
  go_wp2_with (first | (go_at_call 36; refine (HS.out _ hs2).mono ?_; rintro e w1 ⟨g, n, cap, rfl, hn0, hn1, hcell, hb⟩) | (go_at_call 34; refine (HL.out _ (by omega)).mono ?_; rintro e w2 ⟨rfl, m, rfl⟩))
  go_ret2
  exact ⟨rfl, below_drewN hb _⟩

set_option maxHeartbeats 400000 in
theorem specVerify_no (s : ByteArray) (w : World) (hs : s.size ≤ 1048576) (h : ¬ Sealed s) :
    Calls Tryd.prog 20 #[.string s] w fun e w' => e = .returned (.tuple #[.string ⟨#[]⟩, .bool false]) ∧ Below w.heap.size w w' := by
  by_cases h4 : 4000 < s.size
  · have d0 : decide (4000 < (s.size : Int)) = true := by simp; omega
    clear h
    go_enter Tryd.func20, Tryd.ntmps20
    go_wp2_with fail
    go_ret2
    exact ⟨rfl, Below.refl _ _⟩
  have d0 : decide (4000 < (s.size : Int)) = false := by simp; omega
  have hhs := headS_size s
  have HS := Lib.hid (l1Split_head s)
  have HL := Lib.hid (l1Seal_any (headS s))
  obtain ⟨y, hy⟩ : ∃ y : ByteArray, y = ⟨(sealB (headS s).data.toList).toArray⟩ := ⟨_, rfl⟩
  have hne : (y.toList == s.toList) = false := seal_ne (by rw [hy]) fun e => h ⟨by omega, e⟩
  have hne2 : (y.toList != s.toList) = true := by simp only [bne, hne, Bool.not_false]
  rw [← hy] at HL
  clear h hy
  generalize headS s = t at *
  go_enter Tryd.func20, Tryd.ntmps20
  go_wp2_with (first | (go_at_call 36; refine (HS.out _ hs).mono ?_; rintro e w1 ⟨g, n, cap, rfl, hn0, hn1, hcell, hb⟩) | (go_at_call 34; refine (HL.out _ (by omega)).mono ?_; rintro e w2 ⟨rfl, m, rfl⟩))
  go_ret2
  exact ⟨rfl, below_drewN hb _⟩

theorem cut_any (s : ByteArray) (w : World) (hE : Env w) (hs : s.size ≤ 1048576) :
    Calls Tryd.prog 35 #[.string s, .string ⟨#[35]⟩] w fun e w' => (∃ (u : ByteArray) (b : Bool), e = .returned (.tuple #[.string (headS s), .string u, .bool b])) ∧ ∃ n, w' = w.drewN n := by
  obtain ⟨m, hm⟩ := hE.len
  have hh : headS s = ⟨(Lib.cut s.data.toList (⟨#[35]⟩ : ByteArray).data.toList).1.toArray⟩ := by
    have e : (Lib.cut s.data.toList (⟨#[35]⟩ : ByteArray).data.toList).1 = headB s.data.toList 35 := cut_head _ _
    rw [e]; rfl
  rw [hh]
  exact (Tryd.strings_Cut s ⟨#[35]⟩ m w (by omega) hm).mono fun e w' h => ⟨⟨_, _, h.1⟩, h.2⟩

set_option maxHeartbeats 400000 in
theorem implVerify_yes (s : ByteArray) (w : World) (hE : Env w) (h : Sealed s) :
    Calls Tryd.prog 18 #[.string s] w fun e w' => e = .returned (.tuple #[.string (headS s), .bool true]) ∧ Below w.heap.size w w' := by
  obtain ⟨h4, he⟩ := h
  have hs2 : s.size ≤ 1048576 := by omega
  have hhs := headS_size s
  have hcan : CanSeal (headS s).data.toList := by
    rw [headS_list]
    exact ⟨headB_not _ _, by rw [he, Array.length_toList]; exact h4⟩
  have HC := Lib.hid hcan
  have HS := Lib.hid (cut_any s)
  have HL := Lib.hid (implAppend_yes (headS s))
  rw [show (⟨(sealB (headS s).data.toList).toArray⟩ : ByteArray) = s from seal_eq (by simp) he] at HL
  have hself : (s.toList == s.toList) = true := by simp
  have hself2 : (s.toList != s.toList) = false := by simp
  clear he hcan
  generalize headS s = t at *
  go_enter Tryd.func18, Tryd.ntmps18
  go_wp2_with (first | (go_at_call 35; refine (HS.out _ hE hs2).mono ?_; rintro e w1 ⟨⟨u, b, rfl⟩, m, rfl⟩) | (go_at_call 16; refine (HL.out _ (hE.drewN _) (by omega) HC.out).mono ?_; rintro e w2 ⟨rfl, hb⟩))
  go_ret2
  exact ⟨rfl, (below_drewN (Below.refl _ _) _).trans hb⟩

set_option maxHeartbeats 400000 in
theorem implVerify_no (s : ByteArray) (w : World) (hE : Env w) (hs : s.size ≤ 1048576) (h : ¬ Sealed s) :
    Calls Tryd.prog 18 #[.string s] w fun e w' => e = .returned (.tuple #[.string ⟨#[]⟩, .bool false]) ∧ Below w.heap.size w w' := by
  have hhs := headS_size s
  have HS := Lib.hid (cut_any s)
  by_cases hcan : CanSeal (headS s).data.toList
  · have HC := Lib.hid hcan
    have HL := Lib.hid (implAppend_yes (headS s))
    obtain ⟨y, hy⟩ : ∃ y : ByteArray, y = ⟨(sealB (headS s).data.toList).toArray⟩ := ⟨_, rfl⟩
    have hne : (y.toList == s.toList) = false := by
      rw [beq_eq_false_iff_ne, Lib.toList_data, Lib.toList_data, hy]
      intro e
      refine h ⟨?_, by rw [← headS_list]; exact e⟩
      have := hcan.2
      rw [show sealB (headS s).data.toList = s.data.toList from e, Array.length_toList] at this
      exact this
    have hne2 : (y.toList != s.toList) = true := by simp only [bne, hne, Bool.not_false]
    rw [← hy] at HL
    clear h hy hcan
    generalize headS s = t at *
    go_enter Tryd.func18, Tryd.ntmps18
    go_wp2_with (first | (go_at_call 35; refine (HS.out _ hE hs).mono ?_; rintro e w1 ⟨⟨u, b, rfl⟩, m, rfl⟩) | (go_at_call 16; refine (HL.out _ (hE.drewN _) (by omega) HC.out).mono ?_; rintro e w2 ⟨rfl, hb⟩))
    go_ret2
    exact ⟨rfl, (below_drewN (Below.refl _ _) _).trans hb⟩
  · have HC := Lib.hid hcan
    have HL := Lib.hid (implAppend_no (headS s))
    clear h hcan
    generalize headS s = t at *
    go_enter Tryd.func18, Tryd.ntmps18
    go_wp2_with (first | (go_at_call 35; refine (HS.out _ hE hs).mono ?_; rintro e w1 ⟨⟨u, b, rfl⟩, m, rfl⟩) | (go_at_call 16; refine (HL.out _ (hE.drewN _) (by omega) HC.out).mono ?_; rintro e w2 ⟨rfl, hb⟩))
    go_ret2
    exact ⟨rfl, (below_drewN (Below.refl _ _) _).trans hb⟩
end Go.Proofs.YtgbnpdgehknfpaaDoor.verify
