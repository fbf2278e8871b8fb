/- The laws' draws of texts. -/
import Derived.Test.YtgbnpdgehknfpaaDoorCursor
import Derived.OwnWalk
import Derived.Laws.IdiomStrings
namespace Go.Proofs.YtgbnpdgehknfpaaDoor.drawtext
open Go.RowKit P1 cursor

theorem Cur.keep {w w' : World} {g : Nat} {A : Option Addr} {n c k : Nat} {row : Option Nat} (h : Cur w g A n c k) (hb : w.grownBy w' row) (hr : ∀ j, row = some j → g < j) : Cur w' g A n c k := by
  have hlt := h.lt
  obtain ⟨hC, sd, T, hs, hg⟩ := h
  refine ⟨⟨hC.1, fun h0 => ?_⟩, sd, T, hs, (hb.block g hlt (fun e => by have := hr g e.symm; omega)).trans hg⟩
  obtain ⟨ga, o, e, hlt, hx⟩ := hC.2 h0
  refine ⟨ga, o, e, hlt, fun j hj => ?_⟩
  obtain ⟨b, hb', hc⟩ := hx j hj
  exact ⟨b, hb', hb.cell hc (fun e => by have := hr ga e.symm; omega)⟩
theorem Cur.alloc {w : World} {g : Nat} {A : Option Addr} {n c k : Nat} (h : Cur w g A n c k) (o : Obj) : Cur (w.alloc o) g A n c k :=
  Cur.keep h (World.grownBy_alloc w o none) (fun j e => by cases e)

/-- texts in a new row -/
theorem texts_new (w : World) (l : List ByteArray) (T : TypeId) : Texts (w.alloc (.cells (l.map Value.string).toArray T)) w.heap.size l := fun j x hj =>
  cell_of_row _ w.heap.size j _ T (0, 0) (heap_alloc_new w _) |>.trans (by simp [hj])

def anyL : List ByteArray := [⟨#[]⟩, ⟨#[97]⟩, ⟨#[97, 44, 98]⟩, ⟨#[115, 111, 109, 101, 32, 119, 111, 114, 100, 115]⟩, ⟨#[120, 35, 121]⟩, ⟨#[45, 49, 50]⟩, ⟨#[0, 255]⟩, ⟨#[44, 44]⟩, ⟨#[48]⟩]
theorem small_of {l : List ByteArray} (h : (l.all fun x => decide (x.size ≤ 16)) = true) (x : ByteArray) (hx : x ∈ l) : x.size ≤ 16 := of_decide_eq_true (List.all_eq_true.1 h x hx)
theorem any_small (x : ByteArray) (hx : x ∈ anyL) : x.size ≤ 16 := small_of (by decide) x hx

set_option maxHeartbeats 1000000 in
theorem any1_any (g : Nat) (A : Option Addr) (n c k : Nat) (w : World) (h : Cur w g A n c k) (hk : k ≤ 900000) :
    Calls Tryd.prog 30 #[.pointer (some ⟨g, 0, none⟩)] w fun e w' => ∃ (x : ByteArray) (k' : Nat), x.size ≤ 16 ∧ k' ≤ k + 2 ∧ e = .returned (.string x) ∧ Cur w' g A n c k' ∧ w.grownBy w' (some g) := by
  have HH := Lib.hid h
  have hlt := h.lt
  clear h
  go_enter Tryd.func30, Tryd.ntmps30
  go_wp2_with fail
  refine (of_any g A n c k w.heap.size 9 anyL _ (Cur.alloc HH.out _) hk (by decide) (by decide) (by omega) (texts_new w anyL 9)).mono ?_
  rintro e w1 ⟨x, k', hx, hk', rfl, hc, hg⟩
  have hx16 := any_small x hx
  clear hx
  go_wp2_with fail
  go_ret
  exact ⟨x, k', hx16, hk', rfl, hc, gtrans (World.grownBy_alloc w _ _) hg⟩

theorem Cur.new {w : World} {A : Option Addr} {n c : Nat} {T : TypeId} (h : CodeIs w w.heap.size A n) : Cur (w.alloc (.cells #[.slice A n c, .int .i64 0, .int .u64 0] T)) w.heap.size A n c 0 := by
  refine ⟨⟨h.1, fun h0 => ?_⟩, 0, T, by omega, heap_alloc_new w _⟩
  obtain ⟨ga, o, e, hlt, hx⟩ := h.2 h0
  refine ⟨ga, o, e, hlt, fun j hj => ?_⟩
  obtain ⟨b, hb', hc⟩ := hx j hj
  exact ⟨b, hb', (World.grownBy_alloc w _ none).cell hc (by simp)⟩
theorem below_new (w : World) (o : Obj) : Below w.heap.size w (w.alloc o) := (Below.refl _ _).alloc (Nat.le_refl _) _
theorem below_of {w w1 w2 : World} {g : Nat} (h : Below w.heap.size w w1) (hg : w1.grownBy w2 (some g)) (hle : w.heap.size ≤ g) : Below w.heap.size w w2 :=
  h.grown hg h.size (fun j e => by cases e; exact hle)

theorem infoStr : (Tryd.prog.info? 9).map (fun i => (i.zero, i.size, i.bytes)) = some (some (.string ⟨#[]⟩), 1, 16) := by kernel_rfl
theorem infoByte : (Tryd.prog.info? 5).map (fun i => (i.zero, i.size, i.bytes)) = some (some (.int .u8 0), 1, 1) := by kernel_rfl
theorem own_ne {w : World} {B m g : Nat} {e : TypeId} {v : Value} {xs : List Value} (h : w.ownsRow B e 1 v m xs) (hg : g < B) : v.ownBlock = none ∨ v.ownBlock ≠ some g := by
  cases hv : v.ownBlock with
  | none => exact .inl rfl
  | some k => exact .inr fun e => by cases e; have := (h.lt _ hv).1; omega

end Go.Proofs.YtgbnpdgehknfpaaDoor.drawtext
