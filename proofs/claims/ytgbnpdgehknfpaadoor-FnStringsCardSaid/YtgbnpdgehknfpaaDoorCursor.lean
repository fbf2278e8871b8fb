/- The laws' cursor over bytes: next, pick, one, of. -/
import Derived.Test.YtgbnpdgehknfpaaDoorProg
import Derived.Test.YtgbnpdgehknfpaaDoorPlain
import Derived.WalkKit
import Derived.WalkLawsBesides
import Derived.WalkSpells
import Derived.WalkSmall
import Derived.Laws.OwnMore
import Derived.Deep.QuietTactic
import Derived.BigQuiet
import Derived.Laws.Bits64b
namespace Go.Proofs.YtgbnpdgehknfpaaDoor.cursor
open Go.RowKit P1

/-- the bytes that came in -/
def CodeIs (w : World) (B : Nat) (A : Option Addr) (n : Nat) : Prop :=
  n ≤ maxLen ∧ (0 < n → ∃ g o, A = some ⟨g, o, none⟩ ∧ g < B ∧ ∀ j, j < n → ∃ b : Nat, b ≤ 255 ∧ w.cell? ⟨g, o + j, none⟩ = some (.int .u8 (b : Int)))
/-- a cursor of the call's own at block g, behind k bytes -/
def Cur (w : World) (g : Nat) (A : Option Addr) (n c k : Nat) : Prop :=
  CodeIs w g A n ∧ ∃ (sd : Nat) (T : TypeId), sd < 18446744073709551616 ∧ w.heap[g]? = some (.cells #[.slice A n c, .int .i64 (k : Int), .int .u64 (sd : Int)] T (0, 0))

theorem set2 {w w1 : World} {g m : Nat} {x0 x1 x2 v1 v2 : Value} {T : TypeId} (hg : w.heap[g]? = some (.cells #[x0, x1, x2] T (0, 0))) (hw : ((w.drewN m).setCell ⟨g, 1, none⟩ v1).setCell ⟨g, 2, none⟩ v2 = w1) :
    w1.heap[g]? = some (.cells #[x0, v1, v2] T (0, 0)) ∧ w.grownBy w1 (some g) := by
  have h0 : (w.drewN m).heap[g]? = some (.cells #[x0, x1, x2] T (0, 0)) := hg
  have h1 := heap_setCell_same (w.drewN m) g 1 _ T v1 h0
  have h2 := heap_setCell_same _ g 2 _ T v2 h1
  rw [hw] at h2
  refine ⟨h2, ?_⟩
  rw [← hw]
  exact ⟨rfl, rfl, rfl, by simp, fun k _ hk => by
    have hne : k ≠ g := fun e => hk (by rw [e])
    rw [heap_setCell_other _ ⟨g, 2, none⟩ k v2 hne, heap_setCell_other _ ⟨g, 1, none⟩ k v1 hne]; rfl⟩
theorem seed_next (sd b : Nat) : ∃ s2 : Nat, IntKind.u64.wrap (IntKind.u64.wrap (IntKind.u64.wrap ((sd : Int) * 6364136223846793005) + (b : Int)) + 462197) = (s2 : Int) ∧ s2 < 18446744073709551616 := by
  generalize IntKind.u64.wrap (IntKind.u64.wrap ((sd : Int) * 6364136223846793005) + (b : Int)) + 462197 = x
  have h : IntKind.u64.wrap x = x % 18446744073709551616 := by simp [IntKind.wrap, IntKind.bits, IntKind.signed]
  rw [h]
  exact ⟨(x % 18446744073709551616).toNat, by omega, by omega⟩
theorem gtrans {a w w' : World} {row : Option Nat} (h : a.grownBy w row) (k : w.grownBy w' row) : a.grownBy w' row :=
  ⟨k.os.trans h.os, k.tape.trans h.tape, k.output.trans h.output, Nat.le_trans h.size k.size, fun i hi hne => (k.block i (Nat.lt_of_lt_of_le hi h.size) hne).trans (h.block i hi hne)⟩
theorem seed_low (s : Nat) (h : s < 18446744073709551616) : ∃ b : Nat, b ≤ 255 ∧ bits .and .u64 ((s : Int) / 1099511627776) 255 = (b : Int) := by
  have d : ((s : Int) / 1099511627776) = ((s / 1099511627776 : Nat) : Int) := by omega
  refine ⟨s / 1099511627776 &&& 255, Nat.and_le_right, ?_⟩
  rw [d]
  exact bits_and_u64_nat _ 255 (Nat.lt_of_le_of_lt (Nat.div_le_self _ _) h) (by omega)
theorem grown_drewN {w w' : World} {row : Option Nat} (h : w.grownBy w' row) (m : Nat) : w.grownBy (w'.drewN m) row := ⟨h.os, h.tape, h.output, h.size, fun i hi hne => h.block i hi hne⟩
theorem Cur.of {w w1 : World} {g : Nat} {A : Option Addr} {n c k : Nat} {sd : Nat} {T : TypeId} (hC : CodeIs w g A n) (hs : sd < 18446744073709551616) (hg : w1.heap[g]? = some (.cells #[.slice A n c, .int .i64 (k : Int), .int .u64 (sd : Int)] T (0, 0))) (h : w.grownBy w1 (some g)) : Cur w1 g A n c k := by
  refine ⟨⟨hC.1, fun h0 => ?_⟩, sd, T, hs, hg⟩
  obtain ⟨ga, o, e, hlt, hx⟩ := hC.2 h0
  refine ⟨ga, o, e, hlt, fun j hj => ?_⟩
  obtain ⟨b, hb, hc⟩ := hx j hj
  exact ⟨b, hb, h.cell hc (by simp; omega)⟩

set_option maxHeartbeats 1000000 in
theorem next_any (g : Nat) (A : Option Addr) (n c k : Nat) (w : World) (h : Cur w g A n c k) (hk : k ≤ 1000000) :
    Calls Tryd.prog 37 #[.pointer (some ⟨g, 0, none⟩)] w fun e w' => ∃ b : Nat, b ≤ 255 ∧ e = .returned (.int .i64 (b : Int)) ∧ Cur w' g A n c (k + 1) ∧ w.grownBy w' (some g) := by
  obtain ⟨hcode0, sd, T, hsd, hg⟩ := h
  have HC := Lib.hid hcode0
  obtain ⟨hn, hcode⟩ := hcode0
  unfold maxLen at hn
  have c0 : w.cell? ⟨g, 0, none⟩ = some (.slice A n c) := by rw [cell_of_row w g 0 _ T (0, 0) hg]; rfl
  have c1 : w.cell? ⟨g, 1, none⟩ = some (.int .i64 (k : Int)) := by rw [cell_of_row w g 1 _ T (0, 0) hg]; rfl
  have c2 : w.cell? ⟨g, 2, none⟩ = some (.int .u64 (sd : Int)) := by rw [cell_of_row w g 2 _ T (0, 0) hg]; rfl
  have f0 : w.frozen? ⟨g, 0, none⟩ = false := frozen_of_row w g 0 _ T hg
  have f1 : w.frozen? ⟨g, 1, none⟩ = false := frozen_of_row w g 1 _ T hg
  have f2 : w.frozen? ⟨g, 2, none⟩ = false := frozen_of_row w g 2 _ T hg
  by_cases hlt : k < n
  · obtain ⟨ga, o, rfl, hgb, hx⟩ := hcode (by omega)
    obtain ⟨b, hb, hcell⟩ := hx k hlt
    have hlt' : (k : Int) < (n : Int) := by omega
    have hne : ga ≠ g := by omega
    obtain ⟨s2, hs1, hs2⟩ := seed_next sd b
    clear hcode hx
    go_enter Tryd.func37, Tryd.ntmps37
    go_wp2_with fail
    go_quiet (fail)
    go_wp2_with fail
    go_quiet (fail)
    go_wp2_with fail
    generalize hw : World.setCell (World.setCell _ _ _) _ _ = w1
    obtain ⟨hg1, hgr⟩ := set2 hg hw
    clear hw
    have e0 : w1.cell? ⟨g, 0, none⟩ = some (.slice (some ⟨ga, o, none⟩) n c) := by rw [cell_of_row w1 g 0 _ T (0, 0) hg1]; rfl
    have e1 : w1.cell? ⟨g, 1, none⟩ = some (.int .i64 ((k : Int) + 1)) := by rw [cell_of_row w1 g 1 _ T (0, 0) hg1]; rfl
    have HF := Lib.hid (Cur.of (k := k + 1) HC.out hs2 hg1 hgr)
    clear hg1
    have hle : (k : Int) + 1 ≤ (n : Int) := by omega
    clear c0 c1 c2 f0 f1 f2 hg hs1 hcell
    go_quiet (fail)
    go_wp2_with fail
    go_ret
    exact ⟨b, hb, rfl, HF, grown_drewN hgr nq⟩
  · have hlt' : ¬ ((k : Int) < (n : Int)) := by omega
    obtain ⟨s2, hs1', hs2⟩ := seed_next sd 0
    obtain ⟨b, hb, hb1⟩ := seed_low s2 hs2
    have hs1 : IntKind.u64.wrap (IntKind.u64.wrap (IntKind.u64.wrap ((sd : Int) * 6364136223846793005)) + 462197) = (s2 : Int) := by simpa using hs1'
    clear hs1'
    have d0 : decide ((k : Int) < (n : Int)) = false := by simp; omega
    clear hcode
    go_enter Tryd.func37, Tryd.ntmps37
    go_wp2_with fail
    go_quiet (fail)
    go_wp2_with fail
    generalize hw : World.setCell (World.setCell _ _ _) _ _ = w1
    obtain ⟨hg1, hgr⟩ := set2 hg hw
    clear hw
    have e0 : w1.cell? ⟨g, 0, none⟩ = some (.slice A n c) := by rw [cell_of_row w1 g 0 _ T (0, 0) hg1]; rfl
    have e1 : w1.cell? ⟨g, 1, none⟩ = some (.int .i64 ((k : Int) + 1)) := by rw [cell_of_row w1 g 1 _ T (0, 0) hg1]; rfl
    have e2 : w1.cell? ⟨g, 2, none⟩ = some (.int .u64 (s2 : Int)) := by rw [cell_of_row w1 g 2 _ T (0, 0) hg1]; rfl
    have HF := Lib.hid (Cur.of (k := k + 1) HC.out hs2 hg1 hgr)
    clear hg1
    have d1 : decide ((k : Int) + 1 ≤ (n : Int)) = false := by simp; omega
    clear c0 c1 c2 f0 f1 f2 hg hs1
    go_quiet (fail)
    go_wp2_with fail
    go_ret
    exact ⟨b, hb, rfl, HF, grown_drewN hgr _⟩

theorem Cur.lt {w : World} {g : Nat} {A : Option Addr} {n c k : Nat} (h : Cur w g A n c k) : g < w.heap.size := by
  obtain ⟨_, _, _, _, h⟩ := h
  exact (Array.getElem?_eq_some_iff.1 h).1

set_option maxHeartbeats 1000000 in
theorem pick_any (g : Nat) (A : Option Addr) (n c k m : Nat) (w : World) (h : Cur w g A n c k) (hk : k ≤ 900000) (h1 : 1 ≤ m) (h2 : m ≤ 65535) :
    Calls Tryd.prog 22 #[.pointer (some ⟨g, 0, none⟩), .int .i64 (m : Int)] w fun e w' => ∃ x k' : Nat, x < m ∧ k' ≤ k + 2 ∧ e = .returned (.int .i64 (x : Int)) ∧ Cur w' g A n c k' ∧ w.grownBy w' (some g) := by
  by_cases hm1 : m ≤ 1
  · have hm1' : (m : Int) ≤ 1 := by omega
    have HH := Lib.hid h
    clear h
    go_enter Tryd.func22, Tryd.ntmps22
    go_wp2_with fail
    go_ret
    exact ⟨0, k, by omega, by omega, rfl, HH.out, World.grownBy.refl _ _⟩
  · have hm1' : ¬ ((m : Int) ≤ 1) := by omega
    have HH := Lib.hid (next_any g A n c k w h (by omega))
    clear h
    by_cases hbig : 200 < m
    · have hbig' : 200 < (m : Int) := by omega
      go_enter Tryd.func22, Tryd.ntmps22
      go_wp2_with fail
      refine HH.out.mono ?_
      rintro e w1 ⟨x, hx, rfl, hc1, hg1⟩
      have HH2 := Lib.hid (next_any g A n c (k + 1) w1 hc1 (by omega))
      go_wp2_with fail
      refine HH2.out.mono ?_
      rintro e w2 ⟨y, hy, rfl, hc2, hg2⟩
      go_wp2_with fail
      go_ret
      exact ⟨(x * 256 + y) % m, k + 1 + 1, Nat.mod_lt _ (by omega), by omega, ret_int (by simp), hc2, gtrans hg1 hg2⟩
    · have hbig' : ¬ (200 < (m : Int)) := by omega
      go_enter Tryd.func22, Tryd.ntmps22
      go_wp2_with fail
      refine HH.out.mono ?_
      rintro e w1 ⟨x, hx, rfl, hc1, hg1⟩
      go_wp2_with fail
      go_ret
      exact ⟨x % m, k + 1, Nat.mod_lt _ (by omega), by omega, ret_int (by simp), hc1, hg1⟩

theorem one_any (g : Nat) (A : Option Addr) (n c k m : Nat) (w : World) (h : Cur w g A n c k) (hk : k ≤ 900000) (h1 : 1 ≤ m) (h2 : m ≤ 65535) :
    Calls Tryd.prog 26 #[.pointer (some ⟨g, 0, none⟩), .int .i64 (m : Int)] w fun e w' => ∃ (b : Bool) (k' : Nat), k' ≤ k + 2 ∧ e = .returned (.bool b) ∧ Cur w' g A n c k' ∧ w.grownBy w' (some g) := by
  have HH := Lib.hid (pick_any g A n c k m w h hk h1 h2)
  clear h
  go_enter Tryd.func26, Tryd.ntmps26
  go_wp2_with fail
  refine HH.out.mono ?_
  rintro e w1 ⟨x, k', hx, hk', rfl, hc, hg⟩
  go_wp2_with fail
  go_ret
  exact ⟨_, k', hk', rfl, hc, hg⟩

/-- a row of texts at block a -/
def Texts (w : World) (a : Nat) (l : List ByteArray) : Prop := ∀ j x, l[j]? = some x → w.cell? ⟨a, j, none⟩ = some (.string x)

set_option maxHeartbeats 1000000 in
theorem of_any (g : Nat) (A : Option Addr) (n c k a cp : Nat) (l : List ByteArray) (w : World) (h : Cur w g A n c k) (hk : k ≤ 900000) (h1 : 1 ≤ l.length) (h2 : l.length ≤ 65535) (ha : a ≠ g) (hl : Texts w a l) :
    Calls Tryd.prog 27 #[.pointer (some ⟨g, 0, none⟩), .slice (some ⟨a, 0, none⟩) l.length cp] w fun e w' => ∃ (x : ByteArray) (k' : Nat), x ∈ l ∧ k' ≤ k + 2 ∧ e = .returned (.string x) ∧ Cur w' g A n c k' ∧ w.grownBy w' (some g) := by
  have HH := Lib.hid (pick_any g A n c k l.length w h hk h1 h2)
  have HL := Lib.hid hl
  clear h hl
  go_enter Tryd.func27, Tryd.ntmps27
  go_wp2_with fail
  refine HH.out.mono ?_
  rintro e w1 ⟨q, k', hq, hk', rfl, hc, hg⟩
  obtain ⟨x, hx⟩ : ∃ x, l[q]? = some x := ⟨_, List.getElem?_eq_getElem hq⟩
  have hcell : w1.cell? ⟨a, q, none⟩ = some (.string x) := hg.cell (HL.out q x hx) (by simp; exact ha)
  have hq' : (q : Int) < (l.length : Int) := by omega
  have HX := Lib.hid (List.mem_of_getElem? hx)
  clear hx
  go_wp2_with fail
  go_ret
  exact ⟨x, k', HX, hk', rfl, hc, hg⟩
end Go.Proofs.YtgbnpdgehknfpaaDoor.cursor
