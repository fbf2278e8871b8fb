/- The contracts of AppendChecksum: of the program and of the model. -/
import Derived.Test.YtgbnpdgehknfpaaDoorFmt
import Derived.Test.YtgbnpdgehknfpaaDoorSums
import Derived.Test.YtgbnpdgehknfpaaDoorStands
import Derived.Test.YtgbnpdgehknfpaaDoorNumerals
import Derived.Lib.IndexLaws
namespace Go.Proofs.YtgbnpdgehknfpaaDoor.seals
open Go.RowKit P1 P2 nums fmt sums stands

/-- a text with its checksum -/
def sealB (l : List UInt8) : List UInt8 := (l ++ [35]) ++ Lib.itoa (sumB l)
theorem sealB_len (l : List UInt8) : (sealB l).length = l.length + 1 + (Lib.itoa (sumB l)).length := by simp [sealB]; omega
theorem itoa_len (v : Int) (h0 : 0 ≤ v) (h1 : v ≤ 999999) : 1 ≤ (Lib.itoa v).length ∧ (Lib.itoa v).length ≤ 6 := by
  obtain ⟨u, rfl⟩ : ∃ u : Nat, v = (u : Int) := ⟨v.toNat, by omega⟩
  rw [Lib.itoa_nonneg]
  exact decDigits_len u (by omega)

set_option maxHeartbeats 400000 in
theorem l1Seal_any (s : ByteArray) (w : World) (hs : s.size ≤ 1048576) :
    Calls Tryd.prog 34 #[.string s] w fun e w' => e = .returned (.string ⟨(sealB s.data.toList).toArray⟩) ∧ ∃ m, w' = w.drewN m := by
  have hm : s.size ≤ maxLen := by unfold maxLen; omega
  obtain ⟨h0, h1⟩ := sumB_bd s.data.toList
  have hl := itoa_len (sumB s.data.toList) h0 (by omega)
  have HE : Hid (∀ t : ByteArray, t.data.toList = Lib.itoa (sumB s.data.toList) → s ++ (⟨#[35]⟩ : ByteArray) ++ t = ⟨(sealB s.data.toList).toArray⟩) := by
    intro t ht
    apply ByteArray.ext
    rw [ByteArray.data_append, ByteArray.data_append]
    apply Array.toList_inj.1
    simp [sealB, ht]
  go_enter Tryd.func34, Tryd.ntmps34
  go_wp2_with (first | (go_at_call 42; refine (l1Sum_any _ _ hm).mono ?_; rintro e w' ⟨rfl, rfl⟩) | (go_at_call 25; refine (l1Num_any _ _ (by omega) (by omega)).mono ?_; rintro e w' ⟨rfl, m, rfl⟩; obtain ⟨t, ht⟩ : ∃ t : ByteArray, t = ⟨(Lib.itoa (sumB s.data.toList)).toArray⟩ := ⟨_, rfl⟩; rw [← ht]; have hts : t.size ≤ 6 := (by rw [ht, size_list]; exact hl.2); have HT := Lib.hid ht; clear ht))
  go_ret
  exact ⟨ret_str (HE.out t (by rw [HT.out])), _, rfl⟩

def CanSeal (l : List UInt8) : Prop := 35 ∉ l ∧ (sealB l).length ≤ 4000

set_option maxHeartbeats 400000 in
theorem specAppend_yes (s : ByteArray) (w : World) (hs : s.size ≤ 1048576) (h : CanSeal s.data.toList) :
    Calls Tryd.prog 17 #[.string s] w fun e w' => e = .returned (.tuple #[.string ⟨(sealB s.data.toList).toArray⟩, .bool true]) ∧ ∃ m, w' = w.drewN m := by
  have hm : s.size ≤ maxLen := by unfold maxLen; omega
  obtain ⟨h0, h1⟩ := h
  have hN := Lib.hid (hasB_no h0)
  have h4 : s.size ≤ 4000 := by rw [size_list]; have := sealB_len s.data.toList; omega
  have d0 : decide (4000 < (s.size : Int)) = false := by simp; omega
  have HS := Lib.hid (l1Seal_any s)
  have ht : (⟨(sealB s.data.toList).toArray⟩ : ByteArray).size ≤ 4000 := by rw [size_list]; exact h1
  clear h0 h1
  generalize (⟨(sealB s.data.toList).toArray⟩ : ByteArray) = t at *
  go_enter Tryd.func17, Tryd.ntmps17
  go_wp2_with (first | (go_at_call 33; refine (l1Stands_any s 35 35 _ hm rfl).mono ?_; rintro e w' ⟨rfl, rfl⟩; rw [hN.out]) | (go_at_call 34; refine (HS.out _ hs).mono ?_; rintro e w' ⟨rfl, m, rfl⟩))
  go_ret2
  exact ⟨rfl, _, rfl⟩

set_option maxHeartbeats 400000 in
theorem specAppend_no (s : ByteArray) (w : World) (hs : s.size ≤ 1048576) (h : ¬ CanSeal s.data.toList) :
    Calls Tryd.prog 17 #[.string s] w fun e w' => e = .returned (.tuple #[.string ⟨#[]⟩, .bool false]) ∧ ∃ m, w' = w.drewN m := by
  have hm : s.size ≤ maxLen := by unfold maxLen; omega
  by_cases h4 : 4000 < s.size
  · have d0 : decide (4000 < (s.size : Int)) = true := by simp; omega
    clear h
    go_enter Tryd.func17, Tryd.ntmps17
    go_wp2_with fail
    go_ret2
    exact ⟨rfl, 0, rfl⟩
  have d0 : decide (4000 < (s.size : Int)) = false := by simp; omega
  by_cases h0 : 35 ∈ s.data.toList
  · have hN := Lib.hid (hasB_yes h0)
    clear h h0
    go_enter Tryd.func17, Tryd.ntmps17
    go_wp2_with (go_at_call 33; refine (l1Stands_any s 35 35 _ hm rfl).mono ?_; rintro e w' ⟨rfl, rfl⟩; rw [hN.out])
    go_ret2
    exact ⟨rfl, 0, rfl⟩
  · have hN := Lib.hid (hasB_no h0)
    have ht : 4000 < (⟨(sealB s.data.toList).toArray⟩ : ByteArray).size := by
      rw [size_list]
      have : ¬ (sealB s.data.toList).length ≤ 4000 := fun e => h ⟨h0, e⟩
      show 4000 < (sealB s.data.toList).length
      omega
    have d1 : decide (4000 < ((⟨(sealB s.data.toList).toArray⟩ : ByteArray).size : Int)) = true := by simp; omega
    have HS := Lib.hid (l1Seal_any s)
    clear h h0
    generalize (⟨(sealB s.data.toList).toArray⟩ : ByteArray) = t at *
    go_enter Tryd.func17, Tryd.ntmps17
    go_wp2_with (first | (go_at_call 33; refine (l1Stands_any s 35 35 _ hm rfl).mono ?_; rintro e w' ⟨rfl, rfl⟩; rw [hN.out]) | (go_at_call 34; refine (HS.out _ hs).mono ?_; rintro e w' ⟨rfl, m, rfl⟩))
    go_ret2
    exact ⟨rfl, _, rfl⟩

theorem indexByte_no {l : List UInt8} {c : UInt8} (h : c ∉ l) : decide (0 ≤ Lib.indexByte l c) = false := by
  have hg := Lib.indexByte_ge l c
  by_cases e : Lib.indexByte l c = -1
  · rw [e]; rfl
  · obtain ⟨o, ho⟩ : ∃ o : Nat, Lib.indexByte l c = o := ⟨(Lib.indexByte l c).toNat, by omega⟩
    exact absurd (List.mem_of_getElem? (Lib.indexByte_some ho).1) h
theorem indexByte_yes {l : List UInt8} {c : UInt8} (h : c ∈ l) : decide (0 ≤ Lib.indexByte l c) = true := by
  have hg := Lib.indexByte_ge l c
  by_cases e : Lib.indexByte l c = -1
  · obtain ⟨k, hk⟩ := List.getElem?_of_mem h
    exact absurd hk (Lib.indexByte_none e k)
  · rw [decide_eq_true_iff]; omega

set_option maxHeartbeats 400000 in
theorem implAppend_yes (s : ByteArray) (w : World) (hE : Env w) (hs : s.size ≤ 1048576) (h : CanSeal s.data.toList) :
    Calls Tryd.prog 16 #[.string s] w fun e w' => e = .returned (.tuple #[.string ⟨(sealB s.data.toList).toArray⟩, .bool true]) ∧ Below w.heap.size w w' := by
  obtain ⟨h0, h1⟩ := h
  have hN := Lib.hid (indexByte_no h0)
  have hlen := sealB_len s.data.toList
  have h4 : s.size ≤ 4000 := by rw [size_list]; omega
  obtain ⟨b0, b1⟩ := sumB_bd s.data.toList
  have HE : Hid (∀ t : ByteArray, t.data.toList = Lib.itoa (sumB s.data.toList) → s ++ (⟨#[35]⟩ : ByteArray) ++ t = ⟨(sealB s.data.toList).toArray⟩) := by
    intro t ht
    apply ByteArray.ext
    rw [ByteArray.data_append, ByteArray.data_append]
    apply Array.toList_inj.1
    simp [sealB, ht]
  have hl : s.size + 1 + (Lib.itoa (sumB s.data.toList)).length ≤ 4000 := by rw [size_list s]; omega
  have HC := Lib.hid (implChecksum_yes s)
  have HF := Lib.hid (implFormatInt_yes (sumB s.data.toList))
  clear h0 h1 hlen
  obtain ⟨t, ht⟩ : ∃ t : ByteArray, t = ⟨(Lib.itoa (sumB s.data.toList)).toArray⟩ := ⟨_, rfl⟩
  have hts : s.size + 1 + t.size ≤ 4000 := by rw [ht, size_list]; rw [size_list] at hl; exact hl
  have HT := Lib.hid (show t.data.toList = Lib.itoa (sumB s.data.toList) by rw [ht])
  rw [← ht] at HF
  clear ht hl
  generalize sumB s.data.toList = v at *
  go_enter Tryd.func16, Tryd.ntmps16
  go_wp2_with (first | (go_at_call 31; refine (HC.out _ h4).mono ?_; rintro e w1 ⟨rfl, rfl⟩) | (go_at_call 32; refine (Tryd.strings_Contains_one s 35 _).mono ?_; rintro e w1 ⟨rfl, rfl⟩; rw [hN.out]) | (go_at_call 10; refine (HF.out _ hE (by omega) (by omega)).mono ?_; rintro e w2 ⟨rfl, hb⟩))
  go_ret2
  exact ⟨ret2 (congrArg Value.string (HE.out t HT.out)) rfl, hb⟩

set_option maxHeartbeats 400000 in
theorem implAppend_no (s : ByteArray) (w : World) (hE : Env w) (hs : s.size ≤ 1048576) (h : ¬ CanSeal s.data.toList) :
    Calls Tryd.prog 16 #[.string s] w fun e w' => e = .returned (.tuple #[.string ⟨#[]⟩, .bool false]) ∧ Below w.heap.size w w' := by
  have hm : s.size ≤ maxLen := by unfold maxLen; omega
  by_cases h4 : 4000 < s.size
  · clear h
    go_enter Tryd.func16, Tryd.ntmps16
    go_wp2_with (go_at_call 31; refine (implChecksum_no s _ hm h4).mono ?_; rintro e w1 ⟨rfl, rfl⟩)
    go_ret2
    exact ⟨rfl, Below.refl _ _⟩
  have h4' : s.size ≤ 4000 := by omega
  by_cases h0 : 35 ∈ s.data.toList
  · have hN := Lib.hid (indexByte_yes h0)
    clear h h0 h4
    go_enter Tryd.func16, Tryd.ntmps16
    go_wp2_with (first | (go_at_call 31; refine (implChecksum_yes s _ h4').mono ?_; rintro e w1 ⟨rfl, rfl⟩) | (go_at_call 32; refine (Tryd.strings_Contains_one s 35 _).mono ?_; rintro e w1 ⟨rfl, rfl⟩; rw [hN.out]))
    go_ret2
    exact ⟨rfl, Below.refl _ _⟩
  · have hN := Lib.hid (indexByte_no h0)
    have hlen := sealB_len s.data.toList
    have hbig : ¬ (sealB s.data.toList).length ≤ 4000 := fun e => h ⟨h0, e⟩
    obtain ⟨b0, b1⟩ := sumB_bd s.data.toList
    have hl : 4000 < s.size + 1 + (Lib.itoa (sumB s.data.toList)).length := by rw [size_list s]; omega
    have hl6 := (itoa_len (sumB s.data.toList) b0 (by omega)).2
    have HC := Lib.hid (implChecksum_yes s)
    have HF := Lib.hid (implFormatInt_yes (sumB s.data.toList))
    clear h h0 h4 hlen hbig
    obtain ⟨t, ht⟩ : ∃ t : ByteArray, t = ⟨(Lib.itoa (sumB s.data.toList)).toArray⟩ := ⟨_, rfl⟩
    have hts : 4000 < s.size + 1 + t.size := by rw [ht, size_list (⟨(Lib.itoa (sumB s.data.toList)).toArray⟩)]; exact hl
    have ht6 : t.size ≤ 6 := by rw [ht, size_list]; exact hl6
    rw [← ht] at HF
    clear ht hl hl6
    generalize sumB s.data.toList = v at *
    have d1 : decide (4000 < (s.size : Int) + 1 + t.size) = true := by simp; omega
    go_enter Tryd.func16, Tryd.ntmps16
    go_wp2_with (first | (go_at_call 31; refine (HC.out _ h4').mono ?_; rintro e w1 ⟨rfl, rfl⟩) | (go_at_call 32; refine (Tryd.strings_Contains_one s 35 _).mono ?_; rintro e w1 ⟨rfl, rfl⟩; rw [hN.out]) | (go_at_call 10; refine (HF.out _ hE (by omega) (by omega)).mono ?_; rintro e w2 ⟨rfl, hb⟩))
    go_ret2
    exact ⟨rfl, hb⟩
end Go.Proofs.YtgbnpdgehknfpaaDoor.seals
