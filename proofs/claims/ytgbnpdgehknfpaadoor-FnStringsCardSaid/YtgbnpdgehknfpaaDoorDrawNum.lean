/- The laws' draws for FnStrings. -/
import Derived.Test.YtgbnpdgehknfpaaDoorDrawText
import Derived.Test.YtgbnpdgehknfpaaDoorNums
import Derived.Lib.ItoaLen
namespace Go.Proofs.YtgbnpdgehknfpaaDoor.drawnum
open Go.RowKit P1 nums cursor drawtext

/-- a row of numbers at block a -/
def Ints (w : World) (a : Nat) (l : List Int) : Prop := ∀ j x, l[j]? = some x → w.cell? ⟨a, j, none⟩ = some (.int .i64 x)
theorem ints_new (w : World) (l : List Int) (T : TypeId) : Ints (w.alloc (.cells (l.map (Value.int .i64)).toArray T)) w.heap.size l := fun j x hj =>
  cell_of_row _ w.heap.size j _ T (0, 0) (heap_alloc_new w _) |>.trans (by simp [hj])

set_option maxHeartbeats 1000000 in
theorem among_any (g : Nat) (A : Option Addr) (n c k a cp : Nat) (l : List Int) (w : World) (h : Cur w g A n c k) (hk : k ≤ 900000) (h1 : 1 ≤ l.length) (h2 : l.length ≤ 65535) (ha : a ≠ g) (hl : Ints w a l) :
    Calls Tryd.prog 21 #[.pointer (some ⟨g, 0, none⟩), .slice (some ⟨a, 0, none⟩) l.length cp] w fun e w' => ∃ (x : Int) (k' : Nat), x ∈ l ∧ k' ≤ k + 2 ∧ e = .returned (.int .i64 x) ∧ Cur w' g A n c k' ∧ w.grownBy w' (some g) := by
  have HH := Lib.hid (pick_any g A n c k l.length w h hk h1 h2)
  have HL := Lib.hid hl
  clear h hl
  go_enter Tryd.func21, Tryd.ntmps21
  go_wp2_with fail
  refine HH.out.mono ?_
  rintro e w1 ⟨q, k', hq, hk', rfl, hc, hg⟩
  obtain ⟨x, hx⟩ : ∃ x, l[q]? = some x := ⟨_, List.getElem?_eq_getElem hq⟩
  have hcell : w1.cell? ⟨a, q, none⟩ = some (.int .i64 x) := hg.cell (HL.out q x hx) (by simp; exact ha)
  have hq' : (q : Int) < (l.length : Int) := by omega
  have HX := Lib.hid (List.mem_of_getElem? hx)
  clear hx
  go_wp2_with fail
  go_ret
  exact ⟨x, k', HX, hk', rfl, hc, hg⟩

def numL (q : Nat) : List Int := [0, 1, -1, 10, 999999, -999999, 1000000, -1000000, (q : Int) - 500]
theorem num_small (q : Nat) (hq : q < 1000) (x : Int) (hx : x ∈ numL q) : -1000000 ≤ x ∧ x ≤ 1000000 := by
  simp only [numL, List.mem_cons, List.not_mem_nil, or_false] at hx
  omega
def parseL : List ByteArray := [⟨#[]⟩, ⟨#[45]⟩, ⟨#[45, 48]⟩, ⟨#[48, 48]⟩, ⟨#[48, 49]⟩, ⟨#[45, 45, 49]⟩, ⟨#[49, 120]⟩, ⟨#[57, 57, 57, 57, 57, 57]⟩, ⟨#[49, 48, 48, 48, 48, 48, 48]⟩, ⟨#[45, 57, 57, 57, 57, 57, 57]⟩, ⟨#[49, 56, 52, 52, 54, 55, 52, 52, 48, 55, 51, 55, 48, 57, 53, 53, 49, 54, 49, 55]⟩]
theorem parse_small (x : ByteArray) (hx : x ∈ parseL) : x.size ≤ 32 := by
  have h : (parseL.all fun x => decide (x.size ≤ 32)) = true := by decide
  exact of_decide_eq_true (List.all_eq_true.1 h x hx)

set_option maxHeartbeats 1000000 in
theorem drawFormat_any (A : Option Addr) (n c : Nat) (w : World) (h : CodeIs w w.heap.size A n) :
    Calls Tryd.prog 9 #[.slice A n c] w fun e w' => ∃ x : Int, -1000000 ≤ x ∧ x ≤ 1000000 ∧ e = .returned (.int .i64 x) ∧ Below w.heap.size w w' := by
  have HH := Lib.hid h
  clear h
  go_enter Tryd.func9, Tryd.ntmps9
  go_wp2_with fail
  refine (pick_any w.heap.size A n c 0 1000 _ (Cur.new HH.out) (by omega) (by omega) (by omega)).mono ?_
  rintro e w1 ⟨q, k1, hq, hk1, rfl, hc1, hg1⟩
  have hlt := hc1.lt
  have b1 := below_of (below_new w _) hg1 (Nat.le_refl _)
  clear hg1
  go_wp2_with fail
  refine (among_any w.heap.size A n c k1 w1.heap.size 9 (numL q) _ (Cur.alloc hc1 _) (by omega) (by simp [numL]) (by simp [numL]) (by omega) (ints_new w1 (numL q) 3)).mono ?_
  rintro e w2 ⟨y, k2, hy, hk2, rfl, hc2, hg2⟩
  have b2 := below_of (b1.alloc b1.size _) hg2 (Nat.le_refl _)
  obtain ⟨y0, y1⟩ := num_small q hq y hy
  clear hy hg2
  go_wp2_with fail
  go_ret
  exact ⟨y, y0, y1, rfl, b2⟩

set_option maxHeartbeats 1000000 in
theorem drawParse_any (A : Option Addr) (n c : Nat) (w : World) (h : CodeIs w w.heap.size A n) :
    Calls Tryd.prog 12 #[.slice A n c] w fun e w' => ∃ x : ByteArray, x.size ≤ 32 ∧ e = .returned (.string x) ∧ Below w.heap.size w w' := by
  have HH := Lib.hid h
  clear h
  go_enter Tryd.func12, Tryd.ntmps12
  go_wp2_with fail
  refine (one_any w.heap.size A n c 0 2 _ (Cur.new HH.out) (by omega) (by omega) (by omega)).mono ?_
  rintro e w1 ⟨b, k1, hk1, rfl, hc1, hg1⟩
  have hlt := hc1.lt
  have b1 := below_of (below_new w _) hg1 (Nat.le_refl _)
  clear hg1
  cases b with
  | true =>
    go_wp2_with fail
    refine (of_any w.heap.size A n c k1 w1.heap.size 11 parseL _ (Cur.alloc hc1 _) (by omega) (by decide) (by decide) (by omega) (texts_new w1 parseL 9)).mono ?_
    rintro e w2 ⟨y, k2, hy, hk2, rfl, hc2, hg2⟩
    have hy32 := parse_small y hy
    have b2 := below_of (b1.alloc b1.size _) hg2 (Nat.le_refl _)
    clear hy hg2
    go_wp2_with fail
    go_ret
    exact ⟨y, hy32, rfl, b2⟩
  | false =>
    go_wp2_with fail
    refine (pick_any w.heap.size A n c k1 2000 _ hc1 (by omega) (by omega) (by omega)).mono ?_
    rintro e w2 ⟨q, k2, hq, hk2, rfl, hc2, hg2⟩
    have b2 := below_of b1 hg2 (Nat.le_refl _)
    clear hg2
    go_wp2_with fail
    refine (l1Num_any ((q : Int) - 1000) _ (by omega) (by omega)).mono ?_
    rintro e w3 ⟨rfl, m, rfl⟩
    have hl := Lib.itoa_length_le ((q : Int) - 1000) (by omega) (by omega)
    go_wp2_with fail
    go_ret
    exact ⟨_, by simp [ByteArray.size]; omega, rfl, below_drewN b2 m⟩

set_option maxHeartbeats 1000000 in
theorem drawAppend_any (A : Option Addr) (n c : Nat) (w : World) (h : CodeIs w w.heap.size A n) :
    Calls Tryd.prog 15 #[.slice A n c] w fun e w' => ∃ x : ByteArray, x.size ≤ 4100 ∧ e = .returned (.string x) ∧ Below w.heap.size w w' := by
  have HH := Lib.hid h
  clear h
  go_enter Tryd.func15, Tryd.ntmps15
  go_wp2_with fail
  refine (one_any w.heap.size A n c 0 20 _ (Cur.new HH.out) (by omega) (by omega) (by omega)).mono ?_
  rintro e w1 ⟨b, k1, hk1, rfl, hc1, hg1⟩
  have b1 := below_of (below_new w _) hg1 (Nat.le_refl _)
  clear hg1
  cases b with
  | true =>
    go_wp2_with fail
    refine (pick_any w.heap.size A n c k1 10 _ hc1 (by omega) (by omega) (by omega)).mono ?_
    rintro e w3 ⟨p, k3, hp, hk3, rfl, hc3, hg3⟩
    have hB3 := below_of b1 hg3 (Nat.le_refl _)
    obtain ⟨z, hz⟩ : ∃ z, z = 3990 + p := ⟨_, rfl⟩
    have hz' : (3990 : Int) + (p : Int) = (z : Int) := by omega
    have hz4 : z ≤ 4100 := by omega
    obtain ⟨i1, hi1, hy0, hy1, hy2⟩ := info_parts infoByte
    obtain ⟨w4, hmk, hown4, hg4⟩ := run_make_full (P := Tryd.prog) w3 w3.heap.size 22 5 i1 (.int .u8 0) 1 Tryd.underlying22 hi1 hy0 hy1 .i64 .i64 z (by rw [hy2]; omega) (by unfold maxLen; omega) (Nat.le_refl _)
    obtain ⟨x, hx⟩ : ∃ x : ByteArray, x = ⟨(List.replicate z (0 : UInt8)).toArray⟩ := ⟨_, rfl⟩
    have hxs : x.size ≤ 4100 := by rw [hx]; simp [ByteArray.size]; omega
    have hcv : (convert 22 9 (.slice (some ⟨w3.heap.size, 0, none⟩) z z)).run Tryd.prog w4 = .ok (.string x) w4 := by
      have h := run_convert_bytes_back (P := Tryd.prog) w4 22 9 5 ⟨w3.heap.size, 0, none⟩ z (List.replicate z (0 : UInt8)) Tryd.underlying22 Tryd.underlying5 Tryd.underlying9 (fun q hq => by
        have hq' : q < z := by simpa using hq
        refine hown4.cells rfl q _ ?_
        rw [show (Value.int .u8 0).cells = #[.int .u8 0] from rfl, toList_madeCells_one, Nat.mul_one]
        simp [hq'])
      rw [List.length_replicate, ← hx] at h
      exact h
    have hB4 : Below w.heap.size w w4 := hB3.grown hg4 hB3.size (by simp)
    clear hg3 hg4 hown4 hx hz
    go_wp2_with fail
    go_ret
    exact ⟨x, hxs, rfl, hB4⟩
  | false =>
    go_wp2_with fail
    refine (any1_any w.heap.size A n c k1 _ hc1 (by omega)).mono ?_
    rintro e w2 ⟨x, k2, hx, hk2, rfl, hc2, hg2⟩
    have b2 := below_of b1 hg2 (Nat.le_refl _)
    clear hg2
    go_wp2_with fail
    go_ret
    exact ⟨x, by omega, rfl, b2⟩
end Go.Proofs.YtgbnpdgehknfpaaDoor.drawnum
