/- The laws' draws of texts. -/
import Derived.Test.YtgbnpdgehknfpaaCursor
import Derived.OwnWalk
import Derived.Laws.IdiomStrings
namespace Go.Proofs.Ytgbnpdgehknfpaa.drawtext
open Go.RowKit P1 cursor

theorem Cur.keep {w w' : World} {g : Nat} {A : Option Addr} {n c k : Nat} {row : Option Nat} (h : Cur w g A n c k) (hb : w.grownBy w' row) (hr : ∀ j, row = some j → g < j) : Cur w' g A n c k := by
  have hlt := h.lt
  obtain ⟨hC, sd, T, hs, hg⟩ := h
  refine ⟨⟨hC.1, fun h0 => ?_⟩, sd, T, hs, (hb.block g hlt (fun e => by have := hr g e.symm; omega)).trans hg⟩
  obtain ⟨ga, o, e, hlt, hx⟩ := hC.2 h0
  refine ⟨ga, o, e, hlt, fun j hj => ?_⟩
  obtain ⟨b, hb', hc⟩ := hx j hj
  exact ⟨b, hb', hb.cell hc (fun e => by have := hr ga e.symm; omega)⟩
theorem Cur.alloc {w : World} {g : Nat} {A : Option Addr} {n c k : Nat} (h : Cur w g A n c k) (o : Obj) : Cur (w.alloc o) g A n c k :=
  Cur.keep h (World.grownBy_alloc w o none) (fun j e => by cases e)

/-- texts in a new row -/
theorem texts_new (w : World) (l : List ByteArray) (T : TypeId) : Texts (w.alloc (.cells (l.map Value.string).toArray T)) w.heap.size l := fun j x hj =>
  cell_of_row _ w.heap.size j _ T (0, 0) (heap_alloc_new w _) |>.trans (by simp [hj])

def anyL : List ByteArray := [⟨#[]⟩, ⟨#[97]⟩, ⟨#[97, 44, 98]⟩, ⟨#[115, 111, 109, 101, 32, 119, 111, 114, 100, 115]⟩, ⟨#[120, 35, 121]⟩, ⟨#[45, 49, 50]⟩, ⟨#[0, 255]⟩, ⟨#[44, 44]⟩, ⟨#[48]⟩]
theorem small_of {l : List ByteArray} (h : (l.all fun x => decide (x.size ≤ 16)) = true) (x : ByteArray) (hx : x ∈ l) : x.size ≤ 16 := of_decide_eq_true (List.all_eq_true.1 h x hx)
theorem any_small (x : ByteArray) (hx : x ∈ anyL) : x.size ≤ 16 := small_of (by decide) x hx

set_option maxHeartbeats 1000000 in
theorem any1_any (g : Nat) (A : Option Addr) (n c k : Nat) (w : World) (h : Cur w g A n c k) (hk : k ≤ 900000) :
    Calls Try.prog 25 #[.pointer (some ⟨g, 0, none⟩)] w fun e w' => ∃ (x : ByteArray) (k' : Nat), x.size ≤ 16 ∧ k' ≤ k + 2 ∧ e = .returned (.string x) ∧ Cur w' g A n c k' ∧ w.grownBy w' (some g) := by
  have HH := Lib.hid h
  have hlt := h.lt
  clear h
  go_enter Try.func25, Try.ntmps25
  go_wp2_with fail
  refine (of_any g A n c k w.heap.size 9 anyL _ (Cur.alloc HH.out _) hk (by decide) (by decide) (by omega) (texts_new w anyL 9)).mono ?_
  rintro e w1 ⟨x, k', hx, hk', rfl, hc, hg⟩
  have hx16 := any_small x hx
  clear hx
  go_wp2_with fail
  go_ret
  exact ⟨x, k', hx16, hk', rfl, hc, gtrans (World.grownBy_alloc w _ _) hg⟩

theorem Cur.new {w : World} {A : Option Addr} {n c : Nat} {T : TypeId} (h : CodeIs w w.heap.size A n) : Cur (w.alloc (.cells #[.slice A n c, .int .i64 0, .int .u64 0] T)) w.heap.size A n c 0 := by
  refine ⟨⟨h.1, fun h0 => ?_⟩, 0, T, by omega, heap_alloc_new w _⟩
  obtain ⟨ga, o, e, hlt, hx⟩ := h.2 h0
  refine ⟨ga, o, e, hlt, fun j hj => ?_⟩
  obtain ⟨b, hb', hc⟩ := hx j hj
  exact ⟨b, hb', (World.grownBy_alloc w _ none).cell hc (by simp)⟩
theorem below_new (w : World) (o : Obj) : Below w.heap.size w (w.alloc o) := (Below.refl _ _).alloc (Nat.le_refl _) _
theorem below_of {w w1 w2 : World} {g : Nat} (h : Below w.heap.size w w1) (hg : w1.grownBy w2 (some g)) (hle : w.heap.size ≤ g) : Below w.heap.size w w2 :=
  h.grown hg h.size (fun j e => by cases e; exact hle)

theorem infoStr : (Try.prog.info? 9).map (fun i => (i.zero, i.size, i.bytes)) = some (some (.string ⟨#[]⟩), 1, 16) := by kernel_rfl
theorem infoByte : (Try.prog.info? 5).map (fun i => (i.zero, i.size, i.bytes)) = some (some (.int .u8 0), 1, 1) := by kernel_rfl
theorem own_ne {w : World} {B m g : Nat} {e : TypeId} {v : Value} {xs : List Value} (h : w.ownsRow B e 1 v m xs) (hg : g < B) : v.ownBlock = none ∨ v.ownBlock ≠ some g := by
  cases hv : v.ownBlock with
  | none => exact .inl rfl
  | some k => exact .inr fun e => by cases e; have := (h.lt _ hv).1; omega

def sepL : List ByteArray := [⟨#[44]⟩, ⟨#[44]⟩, ⟨#[32]⟩, ⟨#[]⟩, ⟨#[44, 44]⟩]
theorem sep_small (x : ByteArray) (hx : x ∈ sepL) : x.size ≤ 16 := small_of (by decide) x hx

set_option maxHeartbeats 1000000 in
theorem drawSplit_any (A : Option Addr) (n c : Nat) (w : World) (h : CodeIs w w.heap.size A n) :
    Calls Try.prog 9 #[.slice A n c] w fun e w' => ∃ x y : ByteArray, x.size ≤ 16 ∧ y.size ≤ 16 ∧ e = .returned (.tuple #[.string x, .string y]) ∧ Below w.heap.size w w' := by
  have HH := Lib.hid h
  clear h
  go_enter Try.func9, Try.ntmps9
  go_wp2_with fail
  refine (any1_any w.heap.size A n c 0 _ (Cur.new HH.out) (by omega)).mono ?_
  rintro e w1 ⟨x, k1, hx, hk1, rfl, hc1, hg1⟩
  have hlt := hc1.lt
  have b1 := below_of (below_new w _) hg1 (Nat.le_refl _)
  clear hg1
  go_wp2_with fail
  refine (of_any w.heap.size A n c k1 w1.heap.size 5 sepL _ (Cur.alloc hc1 _) (by omega) (by decide) (by decide) (by omega) (texts_new w1 sepL 9)).mono ?_
  rintro e w2 ⟨y, k2, hy, hk2, rfl, hc2, hg2⟩
  have hy16 := sep_small y hy
  have b2 := below_of (b1.alloc b1.size _) hg2 (Nat.le_refl _)
  clear hy hg2
  go_wp2_with fail
  go_ret2
  exact ⟨x, y, hx, hy16, rfl, b2⟩

set_option maxHeartbeats 1000000 in
theorem drawLess_any (A : Option Addr) (n c : Nat) (w : World) (h : CodeIs w w.heap.size A n) :
    Calls Try.prog 14 #[.slice A n c] w fun e w' => ∃ x y : ByteArray, x.size ≤ 16 ∧ y.size ≤ 16 ∧ e = .returned (.tuple #[.string x, .string y]) ∧ Below w.heap.size w w' := by
  have HH := Lib.hid h
  clear h
  go_enter Try.func14, Try.ntmps14
  go_wp2_with fail
  refine (any1_any w.heap.size A n c 0 _ (Cur.new HH.out) (by omega)).mono ?_
  rintro e w1 ⟨x, k1, hx, hk1, rfl, hc1, hg1⟩
  have b1 := below_of (below_new w _) hg1 (Nat.le_refl _)
  clear hg1
  go_wp2_with fail
  refine (any1_any w.heap.size A n c k1 _ hc1 (by omega)).mono ?_
  rintro e w2 ⟨y, k2, hy, hk2, rfl, hc2, hg2⟩
  have b2 := below_of b1 hg2 (Nat.le_refl _)
  clear hg2
  go_wp2_with fail
  go_ret2
  exact ⟨x, y, hx, hy, rfl, b2⟩

def markL : List ByteArray := [⟨#[44]⟩, ⟨#[59]⟩, ⟨#[59]⟩, ⟨#[]⟩, ⟨#[97, 98]⟩]
theorem mark_small (x : ByteArray) (hx : x ∈ markL) : x.size ≤ 16 := small_of (by decide) x hx

set_option maxHeartbeats 1000000 in
theorem drawJoin_any (A : Option Addr) (n c : Nat) (w : World) (h : CodeIs w w.heap.size A n) :
    Calls Try.prog 11 #[.slice A n c] w fun e w' => ∃ (v : Value) (l : List ByteArray) (y : ByteArray), l.length ≤ 4 ∧ (∀ x ∈ l, x.size ≤ 4100) ∧ y.size ≤ 16 ∧ e = .returned (.tuple #[v, .string y]) ∧
      w'.ownsRow (w.heap.size + 1) 9 1 v l.length (l.map Value.string) ∧ Below w.heap.size w w' := by
  have HH := Lib.hid h
  clear h
  go_enter Try.func11, Try.ntmps11
  go_wp2_with fail
  refine (pick_any w.heap.size A n c 0 4 _ (Cur.alloc (Cur.new HH.out) _) (by omega) (by omega) (by omega)).mono ?_
  rintro e w1 ⟨q, k1, hq, hk1, rfl, hc1, hg1⟩
  have hr1 := (World.ownsRow_lit (base := w.heap.size + 1) (e := 9) (size := 1) (w.alloc (.cells #[.slice A n c, .int .i64 0, .int .u64 0] 44)) #[] 0 (by simp) (Nat.zero_le _) rfl).kept hg1 (by simp [Value.ownBlock])
  have b1 := below_of ((below_new w _).alloc (by simp) _) hg1 (Nat.le_refl _)
  clear hg1
  have hr1' : w1.ownsRow (w.heap.size + 1) 9 1 (.slice (some ⟨w.heap.size + 1, 0, none⟩) 0 0) 0 [] := by
    rw [World.size_alloc] at hr1; exact hr1
  clear hr1
  obtain ⟨i0, hi, hz0, hz1, hz2⟩ := info_parts infoStr
  clear HH
  go_wp2_with fail
  go_loopw [5, 7] (fun v i wr => ∃ (j k : Nat) (l : List ByteArray), j ≤ q ∧ i = .int .i64 (j : Int) ∧ l.length = j ∧ Hid (∀ x ∈ l, x.size ≤ 4100) ∧ k ≤ 2 + 2 * j ∧ Cur wr w.heap.size A n c k ∧ wr.ownsRow (w.heap.size + 1) 9 1 v l.length (l.map Value.string) ∧ Below w.heap.size w wr)
    (fun _ i _ => q - (intOf i).toNat)
  case atStart => exact ⟨0, k1, [], Nat.zero_le _, rfl, rfl, (fun x hx => by cases hx), by omega, hc1, hr1', b1⟩
  case round =>
    obtain ⟨j, k, l, hjq, rfl, hlj, hsz, hk, hc, hrow, hB⟩ := hrel
    by_cases hlt : j < q
    · have hlt' : (j : Int) < (q : Int) := by omega
      have HA := Lib.hid (any1_any w.heap.size A n c k wr hc (by omega))
      clear hc hc1 b1 hr1'
      go_wp2_with fail
      refine HA.out.mono ?_
      rintro e w2 ⟨x, k', hx16, hk', rfl, hc2, hg2⟩
      have hrow2 := hrow.kept hg2 (own_ne hrow (by omega))
      have hB2 := below_of hB hg2 (Nat.le_refl _)
      have hbs := hB2.size
      have hcl := hc2.lt
      have HS : Hid (∀ y ∈ l ++ [x], y.size ≤ 4100) := fun y hy => by
        rcases List.mem_append.1 hy with h | h
        · exact hsz.out y h
        · rw [List.mem_singleton] at h; rw [h]; omega
      clear hrow hg2 hB
      go_wp2_with (at_builtin; refine wpList_append_own _ rfl _ _ 26 rfl (w.heap.size + 1) 9 i0 (.string ⟨#[]⟩) 1 16 Try.underlying26 hi hz0 hz1 hz2 rfl (by decide) _ _ _ rfl (hrow2.alloc _) ⟨w2.heap.size, 0, none⟩ 1 1 [.string x] rfl rfl (cell_one_new _ _ _) (by simp [Value.oneCell']) (by unfold maxLen; omega) (by omega) (by simp; omega) ?_; intro v' w3 hown' hgrow _)
      have hcur3 : Cur w3 w.heap.size A n c k' := Cur.keep (Cur.alloc hc2 _) hgrow (fun j e => (hrow2.lt j e).1)
      have hB3 : Below w.heap.size w w3 := (hB2.alloc hbs _).grown hgrow (by simp; omega) (fun j e => by have := (hrow2.lt j e).1; omega)
      clear hgrow
      go_roundw
      case rel => exact ⟨j + 1, k', l ++ [x], by omega, by go_num, by simp; omega, HS, by omega, hcur3, by simpa using hown', hB3⟩
      case measure => simp [intOf]; omega
    · obtain rfl : j = q := by omega
      have HA := Lib.hid (one_any w.heap.size A n c k 20 wr hc (by omega) (by omega) (by omega))
      clear hc1 b1 hr1' hc
      go_wp2_with fail
      refine HA.out.mono ?_
      rintro e w2 ⟨b, k2, hk2, rfl, hc2, hg2⟩
      have hrow2 := hrow.kept hg2 (own_ne hrow (by omega))
      have hB2 := below_of hB hg2 (Nat.le_refl _)
      have hbs := hB2.size
      have hcl := hc2.lt
      clear hrow hg2 hB
      cases b with
      | false =>
        go_wp2_with fail
        refine (of_any w.heap.size A n c k2 w2.heap.size 5 markL _ (Cur.alloc hc2 _) (by omega) (by decide) (by decide) (by omega) (texts_new w2 markL 9)).mono ?_
        rintro e w3 ⟨y, k3, hy, hk3, rfl, hc3, hg3⟩
        have hy16 := mark_small y hy
        have b3 := below_of (hB2.alloc hbs _) hg3 (Nat.le_refl _)
        have hrow3 := (hrow2.alloc (.cells ((markL.map Value.string).toArray) 9)).kept hg3 (own_ne hrow2 (by omega))
        clear hy hg3
        go_wp2_with fail
        go_ret2
        exact ⟨u5, l, y, by omega, hsz.out, hy16, rfl, hrow3, b3⟩
      | true =>
        have HP := Lib.hid (pick_any w.heap.size A n c k2 20 w2 hc2 (by omega) (by omega) (by omega))
        go_wp2_with fail
        refine HP.out.mono ?_
        rintro e w3 ⟨p, k3, hp, hk3, rfl, hc3, hg3⟩
        have hrow3 := hrow2.kept hg3 (own_ne hrow2 (by omega))
        have hB3 := below_of hB2 hg3 (Nat.le_refl _)
        obtain ⟨z, hz⟩ : ∃ z, z = 3990 + p := ⟨_, rfl⟩
        have hz' : (3990 : Int) + (p : Int) = (z : Int) := by omega
        have hz4 : z ≤ 4100 := by omega
        obtain ⟨i1, hi1, hy0, hy1, hy2⟩ := info_parts infoByte
        obtain ⟨w4, hmk, hown4, hg4⟩ := run_make_full (P := Try.prog) w3 w3.heap.size 22 5 i1 (.int .u8 0) 1 Try.underlying22 hi1 hy0 hy1 .i64 .i64 z (by rw [hy2]; omega) (by unfold maxLen; omega) (Nat.le_refl _)
        obtain ⟨x, hx⟩ : ∃ x : ByteArray, x = ⟨(List.replicate z (0 : UInt8)).toArray⟩ := ⟨_, rfl⟩
        have hxs : x.size ≤ 4100 := by rw [hx]; simp [ByteArray.size]; omega
        have hcv : (convert 22 9 (.slice (some ⟨w3.heap.size, 0, none⟩) z z)).run Try.prog w4 = .ok (.string x) w4 := by
          have h := run_convert_bytes_back (P := Try.prog) w4 22 9 5 ⟨w3.heap.size, 0, none⟩ z (List.replicate z (0 : UInt8)) Try.underlying22 Try.underlying5 Try.underlying9 (fun q hq => by
            have hq' : q < z := by simpa using hq
            refine hown4.cells rfl q _ ?_
            rw [show (Value.int .u8 0).cells = #[.int .u8 0] from rfl, toList_madeCells_one, Nat.mul_one]
            simp [hq'])
          rw [List.length_replicate, ← hx] at h
          exact h
        have hrow4 := hrow3.kept hg4 (Classical.em _)
        have hc4 := Cur.keep hc3 hg4 (fun j e => by cases e)
        have hB4 : Below w.heap.size w w4 := hB3.grown hg4 hB3.size (by simp)
        have hbs4 := hB4.size
        have hcl4 := hc4.lt
        clear hg3 hg4 hown4 hx hz hrow2 hc2 hc3 hrow3
        go_wp2_with (at_builtin; refine wpList_append_own _ rfl _ _ 26 rfl (w.heap.size + 1) 9 i0 (.string ⟨#[]⟩) 1 16 Try.underlying26 hi hz0 hz1 hz2 rfl (by decide) _ _ _ rfl (hrow4.alloc _) ⟨w4.heap.size, 0, none⟩ 1 1 [.string x] rfl rfl (cell_one_new _ _ _) (by simp [Value.oneCell']) (by unfold maxLen; omega) (by omega) (by simp; omega) ?_; intro v' w5 hown' hgrow _)
        have hcur5 : Cur w5 w.heap.size A n c k3 := Cur.keep (Cur.alloc hc4 _) hgrow (fun j e => (hrow4.lt j e).1)
        have hB5 : Below w.heap.size w w5 := (hB4.alloc hbs4 _).grown hgrow (by simp; omega) (fun j e => by have := (hrow4.lt j e).1; omega)
        have hcl5 := hcur5.lt
        have hrow5 : w5.ownsRow (w.heap.size + 1) 9 1 v' (l ++ [x]).length ((l ++ [x]).map Value.string) := by simpa using hown'
        clear hgrow hown' hrow4
        go_wp2_with fail
        refine (of_any w.heap.size A n c k3 w5.heap.size 5 markL _ (Cur.alloc hcur5 _) (by omega) (by decide) (by decide) (by omega) (texts_new w5 markL 9)).mono ?_
        rintro e w6 ⟨y, k6, hy, hk6, rfl, hc6, hg6⟩
        have hy16 := mark_small y hy
        have b6 := below_of (hB5.alloc hB5.size _) hg6 (Nat.le_refl _)
        have hrow6 := (hrow5.alloc (.cells ((markL.map Value.string).toArray) 9)).kept hg6 (own_ne hrow5 (by omega))
        clear hy hg6
        go_wp2_with fail
        go_ret2
        refine ⟨v', l ++ [x], y, by simp; omega, fun u hu => ?_, hy16, rfl, hrow6, b6⟩
        rcases List.mem_append.1 hu with h | h
        · exact hsz.out u h
        · rw [List.mem_singleton] at h; rw [h]; exact hxs
end Go.Proofs.Ytgbnpdgehknfpaa.drawtext
