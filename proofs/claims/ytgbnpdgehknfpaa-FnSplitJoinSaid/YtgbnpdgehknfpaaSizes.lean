/- The contracts of the laws' helpers szStringS and toStringS; a slice of texts among the arguments. -/
import Derived.Test.YtgbnpdgehknfpaaJoins
import Derived.Test.YtgbnpdgehknfpaaMarks
import Derived.Test.YtgbnpdgehknfpaaSplitRun
import Derived.SliceStrings
import Derived.Laws.OwnMore
namespace Go.Proofs.Ytgbnpdgehknfpaa.P1
open Go
/-- what is told of a slice of texts that came in: nil, or a row of texts -/
def IsRowS (w : World) (a : Option Addr) (len cap : Nat) (zs : List ByteArray) : Prop :=
  (a = none ∧ len = 0 ∧ cap = 0 ∧ zs = []) ∨
  ∃ x, a = some x ∧ len ≤ cap ∧ cap ≤ maxLen ∧ zs.length = cap ∧ (∀ i, i < zs.length → w.cell? (x.add i) = some (.string (zs.getD i ByteArray.empty))) ∧ ∀ s ∈ zs, s.size ≤ maxLen
end Go.Proofs.Ytgbnpdgehknfpaa.P1
namespace Go.Proofs.Ytgbnpdgehknfpaa.sizes
open Go.RowKit P1 P4 marks split

theorem rowS_txt {w : World} {a : Option Addr} {len cap : Nat} {zs : List ByteArray} (h : IsRowS w a len cap zs) :
    ∃ l : List ByteArray, Txt w (.slice a len cap) l ∧ l.length = len ∧ l.length ≤ maxLen ∧ ∀ s ∈ l, s.size ≤ maxLen := by
  rcases h with ⟨rfl, rfl, rfl, rfl⟩ | ⟨x, rfl, hl, hm, hz, hcell, hwz⟩
  · exact ⟨[], ⟨none, 0, rfl, fun h => by cases h⟩, rfl, Nat.zero_le _, fun s hs => by cases hs⟩
  · have hlen : (zs.take len).length = len := by rw [List.length_take]; omega
    refine ⟨zs.take len, ⟨some x, cap, by rw [hlen], fun hn => ?_⟩, hlen, by omega, fun s hs => hwz s (List.mem_of_mem_take hs)⟩
    obtain ⟨b, off, spot⟩ := x
    have hc0 := hcell 0 (by omega)
    have hspot : spot = none := by simpa [Addr.add] using World.cell?_spot hc0
    subst hspot
    refine ⟨b, off, rfl, fun j y hj => ?_⟩
    have hjl : j < zs.length := by
      have := (List.getElem?_eq_some_iff.1 hj).1
      rw [List.length_take] at this; omega
    have := hcell j hjl
    have hadd : (⟨b, off, none⟩ : Addr).add j = ⟨b, off + j, none⟩ := by unfold Addr.add; split <;> simp_all
    rw [hadd] at this
    rw [this]
    have hjt : j < len := by have := (List.getElem?_eq_some_iff.1 hj).1; rw [hlen] at this; exact this
    rw [List.getElem?_take, if_pos hjt, List.getElem?_eq_getElem hjl] at hj
    rw [List.getD_eq_getElem?_getD, List.getElem?_eq_getElem hjl]
    simp at hj ⊢
    exact hj

/-- the answer of szStringS -/
def szR (l : List ByteArray) : Int := if l.length + total l ≤ 1048576 then ((1048576 - l.length - total l : Nat) : Int) else -1
theorem szR_yes {l : List ByteArray} (h : l.length + total l ≤ 1048576) : szR l = ((1048576 - l.length - total l : Nat) : Int) := by unfold szR; rw [if_pos h]
theorem szR_no {l : List ByteArray} (h : ¬ l.length + total l ≤ 1048576) : szR l = -1 := by unfold szR; rw [if_neg h]
theorem total_le_take (l : List ByteArray) (k : Nat) : total (l.take k) ≤ total l := by
  unfold total
  have h := List.take_append_drop k l
  have e : (l.map (·.size)).sum = ((l.take k).map (·.size)).sum + ((l.drop k).map (·.size)).sum := by
    rw [← List.sum_append, ← List.map_append, h]
  omega

set_option maxHeartbeats 400000 in
theorem szStringS_any (v : Value) (l : List ByteArray) (w : World) (h : Txt w v l) (hl : l.length ≤ maxLen) (hs : ∀ s ∈ l, s.size ≤ maxLen) :
    Calls Try.prog 21 #[v, .int .i64 1048576] w fun e w' => e = .returned (.int .i64 (szR l)) ∧ Below w.heap.size w w' := by
  obtain ⟨A, c, rfl, hx⟩ := h
  unfold maxLen at hl hs
  by_cases hlong : 1048576 < l.length
  · have HR := Lib.hid (szR_no (l := l) (by omega))
    clear hs hx
    have hlong' : (1048576 : Int) < (l.length : Int) := by omega
    go_enter Try.func21, Try.ntmps21
    go_wp2_with fail
    go_ret
    exact ⟨ret_int HR.out.symm, Below.refl _ _⟩
  have hl1 : l.length ≤ 1048576 := by omega
  have hl2 : (l.length : Int) ≤ 1048576 := by omega
  have HS := Lib.hid hs
  clear hs hlong
  go_enter Try.func21, Try.ntmps21
  go_wp2_with fail
  go_loopw [1, 5] (fun q i wr => ∃ k r : Nat, k ≤ l.length ∧ i = .int .i64 (k : Int) ∧ q = .int .i64 (r : Int) ∧ r ≤ 1048576 ∧ Hid (r + l.length + total (l.take k) = 1048576) ∧ ∃ m, wr = w.drewN m)
    (fun _ i _ => l.length - (intOf i).toNat)
  case atStart => exact ⟨0, 1048576 - l.length, Nat.zero_le _, rfl, by go_num, by omega, by show _ = _; simp [total]; omega, 0, rfl⟩
  case round =>
    obtain ⟨k, r, hk, rfl, rfl, hr, HT, m, rfl⟩ := hrel
    by_cases hlt : k < l.length
    · obtain ⟨g, o, rfl, hc⟩ := hx (by omega)
      obtain ⟨x, hx1⟩ : ∃ x, l[k]? = some x := ⟨_, List.getElem?_eq_getElem hlt⟩
      have e1 := hc k x hx1
      have hlt' : (k : Int) < (l.length : Int) := by omega
      have hxs := HS.out x (List.mem_of_getElem? hx1)
      by_cases hov : r < x.size
      · have HR : Hid (szR l = -1) := szR_no (by
          have h1 := total_take_succ hx1
          have h2 := total_le_take l (k + 1)
          have := HT.out
          omega)
        have hov' : (r : Int) < (x.size : Int) := by omega
        have hov2 : (r : Int) - (x.size : Int) < 0 := by omega
        clear hx hc hx1
        go_wp2_with fail
        go_ret
        exact ⟨ret_int HR.out.symm, below_drewN (Below.refl _ _) _⟩
      · obtain ⟨r2, hr2⟩ : ∃ r2, r2 = r - x.size := ⟨_, rfl⟩
        have HT2 : Hid (r2 + l.length + total (l.take (k + 1)) = 1048576) := by
          have h1 := total_take_succ hx1
          have := HT.out
          show _ = _
          omega
        have hov' : ¬ ((r : Int) < (x.size : Int)) := by omega
        have hov2 : 0 ≤ (r : Int) - (x.size : Int) := by omega
        clear hx hc hx1
        go_wp2_with fail
        go_roundw
        case rel => exact ⟨k + 1, r2, by omega, by go_num, by go_num, by omega, HT2, _, rfl⟩
        case measure => simp [intOf]; omega
    · have HR : Hid ((r : Int) = szR l) := by
        have := HT.out
        rw [List.take_of_length_le (by omega)] at this
        show _ = _
        rw [szR_yes (by omega)]; omega
      clear hx
      go_wp2_with fail
      go_ret
      exact ⟨ret_int HR.out, below_drewN (Below.refl _ _) _⟩

/-- the first k texts, then empty ones -/
def copied (l : List ByteArray) (k : Nat) : List Value := (l.take k ++ List.replicate (l.length - k) ByteArray.empty).map Value.string
theorem copied_all (l : List ByteArray) : copied l l.length = l.map Value.string := by simp [copied]
theorem copied_set {l : List ByteArray} {k : Nat} {x : ByteArray} (h : l[k]? = some x) : (copied l k).set k (.string x) = copied l (k + 1) := by
  have hk : k < l.length := (List.getElem?_eq_some_iff.1 h).1
  unfold copied
  rw [← List.map_set, List.take_add_one, h]
  congr 1
  have e : l.length - k = (l.length - (k + 1)) + 1 := by omega
  rw [e, List.replicate_succ, List.set_append]
  rw [List.length_take, if_neg (by omega), show k - min k l.length = 0 from by omega]
  simp

set_option maxHeartbeats 400000 in
theorem toStringS_any (v : Value) (l : List ByteArray) (w : World) (h : Txt w v l) (hl : l.length ≤ 1048576) :
    Calls Try.prog 22 #[v] w fun e w' => ∃ v', e = .returned v' ∧ Holds w w' v' l ∧ Below w.heap.size w w' := by
  obtain ⟨A, c, rfl, hx⟩ := h
  have hi9 : (Try.prog.info? 9).map (fun i => (i.zero, i.size, i.bytes)) = some (some (.string ByteArray.empty), 1, 16) := by kernel_rfl
  obtain ⟨i0, hi, hz0, hz1, hz2⟩ := info_parts hi9
  clear hi9
  obtain ⟨w1, hmk, hown0, hg0⟩ := run_make_full (P := Try.prog) w w.heap.size 26 9 i0 (.string ByteArray.empty) 1 Try.underlying26 hi hz0 hz1 .i64 .i64 l.length (by rw [hz2]; omega) (by unfold maxLen; omega) (Nat.le_refl _)
  have hl2 : (l.length : Int) ≤ 1048576 := by omega
  go_enter Try.func22, Try.ntmps22
  go_wp2_with fail
  have hrow0 : w1.ownsRow w.heap.size 9 1 (.slice (some ⟨w.heap.size, 0, none⟩) l.length l.length) l.length (copied l 0) := by
    have e : (madeCells (Value.string ByteArray.empty).cells (l.length * 1)).toList = copied l 0 := by
      rw [show (Value.string ByteArray.empty).cells = #[.string ByteArray.empty] from rfl, toList_madeCells_one, Nat.mul_one]
      simp [copied]
    rw [← e]; exact hown0
  have hB0 : Below w.heap.size w w1 := (Below.refl _ _).grown hg0 (Nat.le_refl _) (by simp)
  clear hmk hown0 hg0
  go_loopw [4] (fun i wr => ∃ k : Nat, k ≤ l.length ∧ i = .int .i64 (k : Int) ∧ wr.ownsRow w.heap.size 9 1 (.slice (some ⟨w.heap.size, 0, none⟩) l.length l.length) l.length (copied l k) ∧ Below w.heap.size w wr)
    (fun i _ => l.length - (intOf i).toNat)
  case atStart => exact ⟨0, Nat.zero_le _, rfl, hrow0, hB0⟩
  case round =>
    obtain ⟨k, hk, rfl, hrow, hB⟩ := hrel
    by_cases hlt : k < l.length
    · obtain ⟨g, o, rfl, hc⟩ := hx (by omega)
      obtain ⟨x, hx1⟩ : ∃ x, l[k]? = some x := ⟨_, List.getElem?_eq_getElem hlt⟩
      have hcell0 := hc k x hx1
      have hcell : wr.cell? ⟨g, o + k, none⟩ = some (.string x) := (hB.cell (p := ⟨g, o + k, none⟩) (World.block_lt_of_cell? w (a := ⟨g, o + k, none⟩) hcell0)).trans hcell0
      have hlt' : (k : Int) < (l.length : Int) := by omega
      obtain ⟨u, hu⟩ : ∃ u, (copied l k)[k]? = some u := ⟨_, List.getElem?_eq_getElem (by have := hrow.1; omega)⟩
      have hcell2 : wr.cell? ⟨w.heap.size, k, none⟩ = some u := by rw [hrow.cellAt k (by omega), hu]
      have hfr := hrow.frozenAt k
      have hst := hrow.stored k (.string x)
      rw [copied_set hx1] at hst
      have HST := Lib.hid hst
      have HB := Lib.hid (hB.setCell (p := ⟨w.heap.size, k, none⟩) (Nat.le_refl _) (.string x))
      clear hst hu hx hc hcell0 hx1 hrow
      go_wp2_with fail
      go_roundw
      case rel => exact ⟨k + 1, by omega, by go_num, HST.out.1, HB⟩
      case measure => simp [intOf]; omega
    · obtain rfl : k = l.length := by omega
      have HR : Hid (Holds w wr (.slice (some ⟨w.heap.size, 0, none⟩) l.length l.length) l) := ⟨w.heap.size, Nat.le_refl _, by rw [copied_all] at hrow; exact hrow⟩
      clear hx hrow
      go_wp2_with fail
      go_ret
      exact ⟨_, rfl, HR, hB⟩
end Go.Proofs.Ytgbnpdgehknfpaa.sizes
