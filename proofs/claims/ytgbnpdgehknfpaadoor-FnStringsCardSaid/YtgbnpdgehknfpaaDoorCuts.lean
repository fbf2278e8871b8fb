/- The contract of the model's l1Split (the same walk as in SplitRun, for a seat without the program's SplitString); the first piece. -/
import Derived.Test.YtgbnpdgehknfpaaDoorProg
import Derived.Test.YtgbnpdgehknfpaaDoorPlain
import Derived.Test.YtgbnpdgehknfpaaDoorSplits
import Derived.WalkKit
import Derived.OwnWalk
import Derived.Maps.AppendAt
import Derived.WalkSmall
import Derived.WalkLawsBesides
import Derived.WalkSpells
import Derived.Laws.OwnMore
import Derived.Lib.IndexMore
import Derived.Lib.IndexBytes
import Derived.Lib.IndexLaws
namespace Go.Proofs.YtgbnpdgehknfpaaDoor.cuts
open Go.RowKit P1 P3

theorem infoStr : (Tryd.prog.info? 9).map (fun i => (i.zero, i.size, i.bytes)) = some (some (.string ⟨#[]⟩), 1, 16) := by kernel_rfl

set_option maxHeartbeats 1000000 in
theorem l1Split_any (s : ByteArray) (b : Int) (c : UInt8) (w : World) (hs : s.size ≤ 1048576) (hb : (c.toNat : Int) = b) :
    Calls Tryd.prog 36 #[.string s, .int .u8 b] w fun e W' => ∃ v, e = .returned v ∧ W'.ownsRow w.heap.size 9 1 v (splitN s c).length ((splitN s c).map Value.string) ∧ Below w.heap.size w W' := by
  have HB := Lib.hid hb
  clear hb
  obtain ⟨i0, hi, hz0, hz1, hz2⟩ := info_parts infoStr
  go_enter Tryd.func36, Tryd.ntmps36
  go_wp2
  go_loopw [5, 6, 7] (fun v st i wr => ∃ k : Nat, k ≤ s.size ∧ i = .int .i64 k ∧ st = .int .i64 ((cutN s c k).2 : Int) ∧ wr.ownsRow w.heap.size 9 1 v (cutN s c k).1.length ((cutN s c k).1.map Value.string) ∧ Below w.heap.size w wr)
    (fun _ _ i _ => s.size - (intOf i).toNat)
  case atStart => exact ⟨0, Nat.zero_le _, rfl, rfl, World.ownsRow_lit (size := 1) w #[] 0 (Nat.le_refl _) (Nat.zero_le _) rfl, (Below.refl _ _).alloc (Nat.le_refl _) _⟩
  case round =>
    obtain ⟨k, hk, rfl, rfl, hrow, hB⟩ := hrel
    have hfk := cutN_from s c k
    have hpl := cutN_len s c k
    by_cases hlt : k < s.size
    · by_cases hc : s[k] = c
      · have HH := Lib.hid (cutN_hit s c k hlt hc)
        have d1 : ((s[k].toNat : Int) == b) = true := by rw [hc, HB.out]; simp
        clear hc
        generalize cutN s c k = pf at *
        obtain ⟨pre, f⟩ := pf
        simp only at hfk hpl hrow HH ⊢
        go_wp2_with (at_builtin; refine wpList_append_own _ rfl _ _ 44 rfl w.heap.size 9 i0 (.string ⟨#[]⟩) 1 16 Tryd.underlying44 hi hz0 hz1 hz2 rfl (by decide) _ _ _ rfl (hrow.alloc _) ⟨wr.heap.size, 0, none⟩ 1 1 [.string (s.extract f k)] rfl rfl (cell_one_new _ _ _) (by simp [Value.oneCell']) (by unfold maxLen; omega) (by omega) (by have := hB.size; simp; omega) ?_; intro v' w1 hown' hgrow _)
        have hb2 : Below w.heap.size w w1 := (hB.alloc (by have := hB.size; omega) _).grown hgrow (by have := hB.size; simp; omega) (fun j e => (hrow.lt j e).1)
        clear hrow hgrow
        go_roundw
        case rel => exact ⟨k + 1, by omega, by go_num, by rw [HH.out]; go_num, by rw [HH.out]; simpa using hown', hb2⟩
        case measure => simp [intOf]; omega
      · have HH := Lib.hid (cutN_miss s c k hlt hc)
        have d1 : ((s[k].toNat : Int) == b) = false := by
          rw [← HB.out, beq_eq_false_iff_ne]
          intro e
          exact hc (UInt8.toNat_inj.1 (by omega))
        clear hc
        go_wp2
        go_roundw
        case rel => exact ⟨k + 1, by omega, by go_num, by rw [HH.out], by rw [HH.out]; exact hrow, hB⟩
        case measure => simp [intOf]; omega
    · obtain rfl : k = s.size := by omega
      have HH : Hid (splitN s c = (cutN s c s.size).1 ++ [s.extract (cutN s c s.size).2 s.size]) := rfl
      generalize cutN s c s.size = pf at *
      obtain ⟨pre, f⟩ := pf
      simp only at hfk hpl hrow HH ⊢
      go_wp2_with (at_builtin; refine wpList_append_own _ rfl _ _ 44 rfl w.heap.size 9 i0 (.string ⟨#[]⟩) 1 16 Tryd.underlying44 hi hz0 hz1 hz2 rfl (by decide) _ _ _ rfl (hrow.alloc _) ⟨wr.heap.size, 0, none⟩ 1 1 [.string (s.extract f s.size)] rfl rfl (cell_one_new _ _ _) (by simp [Value.oneCell']) (by unfold maxLen; omega) (by omega) (by have := hB.size; simp; omega) ?_; intro v' w1 hown' hgrow _)
      have hb2 : Below w.heap.size w w1 := (hB.alloc (by have := hB.size; omega) _).grown hgrow (by have := hB.size; simp; omega) (fun j e => (hrow.lt j e).1)
      go_ret
      exact ⟨v', rfl, by rw [HH.out]; simpa using hown', hb2⟩

/-- what stands ahead of the first such byte -/
def headB (l : List UInt8) (c : UInt8) : List UInt8 := if 0 ≤ Lib.indexByte l c then l.take (Lib.indexByte l c).toNat else l
theorem cut_head (l : List UInt8) (c : UInt8) : (Lib.cut l [c]).1 = headB l c := by
  unfold Lib.cut headB
  rw [Lib.index_one]
  split <;> rfl
theorem headB_none {l : List UInt8} {c : UInt8} (h : c ∉ l) : headB l c = l := by
  unfold headB
  rw [if_neg]
  intro h0
  obtain ⟨o, ho⟩ : ∃ o : Nat, Lib.indexByte l c = o := ⟨(Lib.indexByte l c).toNat, by omega⟩
  exact h (List.mem_of_getElem? (Lib.indexByte_some ho).1)
theorem headB_len (l : List UInt8) (c : UInt8) : (headB l c).length ≤ l.length := by
  unfold headB
  split
  · rw [List.length_take]; omega
  · exact Nat.le_refl _
theorem headB_not (l : List UInt8) (c : UInt8) : c ∉ headB l c := by
  intro hm
  unfold headB at hm
  split at hm
  · rename_i h0
    obtain ⟨o, ho⟩ : ∃ o : Nat, Lib.indexByte l c = o := ⟨(Lib.indexByte l c).toNat, by omega⟩
    obtain ⟨h1, h2⟩ := Lib.indexByte_some ho
    rw [ho] at hm
    obtain ⟨j, hj⟩ := List.getElem?_of_mem hm
    rw [show ((o : Int).toNat) = o from rfl, List.getElem?_take] at hj
    split at hj
    · exact h2 j (by assumption) hj
    · cases hj
  · rename_i h0
    have hg := Lib.indexByte_ge l c
    obtain ⟨j, hj⟩ := List.getElem?_of_mem hm
    exact Lib.indexByte_none (by omega) j hj

theorem cutN_none (s : ByteArray) (c : UInt8) : ∀ k, (∀ j, j < k → s.data.toList[j]? ≠ some c) → cutN s c k = ([], 0)
  | 0, _ => rfl
  | k + 1, h => by
    rw [cutN, if_neg (h k (Nat.lt_succ_self k))]
    exact cutN_none s c k fun j hj => h j (by omega)
theorem cutN_first (s : ByteArray) (c : UInt8) (o : Nat) (h1 : s.data.toList[o]? = some c) (h2 : ∀ j, j < o → s.data.toList[j]? ≠ some c) : ∀ d, (cutN s c (o + 1 + d)).1[0]? = some (s.extract 0 o)
  | 0 => by
    rw [Nat.add_zero, cutN, if_pos h1, cutN_none s c o h2]; rfl
  | d + 1 => by
    have ih := cutN_first s c o h1 h2 d
    rw [show o + 1 + (d + 1) = (o + 1 + d) + 1 from rfl, cutN]
    split
    · show ((cutN s c (o + 1 + d)).1 ++ _)[0]? = _
      rw [List.getElem?_append_left (List.getElem?_eq_some_iff.1 ih).1]; exact ih
    · exact ih
theorem extract_take (s : ByteArray) (o : Nat) : s.extract 0 o = ⟨(s.data.toList.take o).toArray⟩ := by
  apply ByteArray.ext
  apply Array.toList_inj.1
  simp
theorem split_head (s : ByteArray) (c : UInt8) : (splitN s c)[0]? = some ⟨(headB s.data.toList c).toArray⟩ := by
  unfold splitN
  by_cases h0 : 0 ≤ Lib.indexByte s.data.toList c
  · obtain ⟨o, ho⟩ : ∃ o : Nat, Lib.indexByte s.data.toList c = o := ⟨(Lib.indexByte s.data.toList c).toNat, by omega⟩
    obtain ⟨h1, h2⟩ := Lib.indexByte_some ho
    have hlt : o < s.size := by have := (List.getElem?_eq_some_iff.1 h1).1; rwa [Array.length_toList] at this
    have h := cutN_first s c o h1 h2 (s.size - (o + 1))
    rw [show o + 1 + (s.size - (o + 1)) = s.size from by omega] at h
    rw [List.getElem?_append_left (List.getElem?_eq_some_iff.1 h).1, h, extract_take]
    unfold headB
    rw [if_pos h0, ho]; rfl
  · have hg := Lib.indexByte_ge s.data.toList c
    rw [cutN_none s c s.size fun j _ => Lib.indexByte_none (by omega) j]
    unfold headB
    rw [if_neg h0, List.nil_append, extract_take, List.take_of_length_le (by rw [Array.length_toList]; exact Nat.le_refl _)]; rfl
end Go.Proofs.YtgbnpdgehknfpaaDoor.cuts
