/- What a law keeps of the slices that it has got: who owns which blocks; marks turn these alone. -/
import Derived.Test.YthgahkkjdpljjaaDoorEdges
import Derived.Test.YthgahkkjdpljjaaDoorInts
namespace Go.Proofs.YthgahkkjdpljjaaDoor.owns
open Go.RowKit P2 words edges ints

/-- w' is w but for blocks from B on and below S, and new ones -/
structure Turned (B S : Nat) (w w' : World) : Prop where
  os : w'.os = w.os
  tape : w'.tape = w.tape
  output : w'.output = w.output
  size : w.heap.size ≤ w'.heap.size
  block : ∀ k, k < w.heap.size → (k < B ∨ S ≤ k) → w'.heap[k]? = w.heap[k]?
theorem Turned.below {B S N : Nat} {w w' : World} (h : Turned B S w w') (hN : N ≤ B) (hB : N ≤ w.heap.size) : Below N w w' :=
  ⟨h.os, h.tape, h.output, h.size, fun k hk => h.block k (by omega) (.inl (by omega))⟩
theorem turned_of {w w' : World} {B S : Nat} {v : Value} (hg : w.grownBy w' v.ownBlock) (h1 : ∀ k, v.ownBlock = some k → B ≤ k ∧ k < S) : Turned B S w w' :=
  ⟨hg.os, hg.tape, hg.output, hg.size, fun k hk h => hg.block k hk (fun e => by have := h1 k e.symm; omega)⟩

def OwnR (B S : Nat) (w : World) (t : TypeId) (size : Nat) (v : Value) (n : Nat) (xs : List Value) : Prop := w.ownsRow B t size v n xs ∧ ∀ k, v.ownBlock = some k → k < S
abbrev OwnI (B S : Nat) (w : World) (v : Value) (l : List Int) : Prop := OwnR B S w 3 1 v l.length (cellsI l)
abbrev OwnE (B S : Nat) (w : World) (v : Value) (l : List Ed) : Prop := OwnR B S w 48 2 v l.length (cellsE l)

section
variable {w w' : World} {B S B' S' : Nat} {t : TypeId} {size : Nat} {v : Value} {n : Nat} {xs : List Value}
theorem OwnR.new (h : w.ownsRow B t size v n xs) : OwnR B w.heap.size w t size v n xs := ⟨h, fun k hk => (h.lt k hk).2⟩
theorem OwnR.below (h : OwnR B S w t size v n xs) (hb : Below w.heap.size w w') : OwnR B S w' t size v n xs := ⟨own_below h.1 hb, h.2⟩
theorem OwnR.turned (h : OwnR B S w t size v n xs) (ht : Turned B' S' w w') (hd : S ≤ B' ∨ S' ≤ B) : OwnR B S w' t size v n xs := by
  refine ⟨⟨h.1.1, ?_⟩, h.2⟩
  rcases h.1.2 with hn | ⟨g, cap, cur, rfl, hb, hgg, rest⟩
  · exact .inl hn
  · refine .inr ⟨g, cap, cur, rfl, hb, ?_, rest⟩
    have hS := h.2 g rfl
    rw [ht.block g (Array.getElem?_eq_some_iff.1 hgg).1 (by omega)]
    exact hgg
theorem OwnR.reads (h : OwnR B S w t size v n xs) : Reads w size v n xs := Reads.of_own h.1
theorem OwnR.lt (h : OwnR B S w t size v n xs) : ∀ k, v.ownBlock = some k → B ≤ k ∧ k < S := fun k hk => ⟨(h.1.lt k hk).1, h.2 k hk⟩
end
theorem blk_turned {w w' : World} {B S g : Nat} {t : TypeId} {cs : Array Value} (h : Blk w g t cs) (ht : Turned B S w w') (hg : g < B ∨ S ≤ g) : Blk w' g t cs := (ht.block g h.lt hg).trans h

theorem eqIntS_own (a b : Value) (l : List Int) (w : World) (ha : Ints w a l) (hb : Ints w b l) (hl : l.length ≤ 1048576) :
    Calls Tryd.prog 21 #[a, b] w fun e w' => e = .returned (.bool true) ∧ Below w.heap.size w w' :=
  (eqIntS_yes a b l w ha hb hl).mono fun _ _ ⟨h1, m, h2⟩ => ⟨h1, h2 ▸ below_drewN (Below.refl _ _) m⟩
theorem eqIntA2S_own (a b : Value) (l : List Ed) (w : World) (ha : Edges w a l) (hb : Edges w b l) (hl : l.length ≤ 1048576) :
    Calls Tryd.prog 20 #[a, b] w fun e w' => e = .returned (.bool true) ∧ Below w.heap.size w w' :=
  (eqIntA2S_yes a b l w ha hb hl)

theorem szIntA2S_yes (v : Value) (l : List Ed) (r : Int) (w : World) (h : Edges w v l) (hl : ((l.length : Nat) : Int) ≤ r) (hr : r ≤ 1048576) :
    Calls Tryd.prog 12 #[v, .int .i64 r] w fun e w' => e = .returned (.int .i64 (r - (l.length : Int))) ∧ w = w' := by
  obtain ⟨A, c, rfl, -⟩ := h.form
  go_enter Tryd.func12, Tryd.ntmps12
  go_wp2_with fail
  go_ret
  exact ⟨rfl, rfl⟩
theorem szIntA2S_no (v : Value) (l : List Ed) (r : Int) (w : World) (h : Edges w v l) (hl : r < ((l.length : Nat) : Int)) (hr : 0 ≤ r) (hm : ((l.length : Nat) : Int) ≤ 9223372036854775807) :
    Calls Tryd.prog 12 #[v, .int .i64 r] w fun e w' => e = .returned (.int .i64 (-1)) ∧ w = w' := by
  obtain ⟨A, c, rfl, -⟩ := h.form
  go_enter Tryd.func12, Tryd.ntmps12
  go_wp2_with fail
  go_ret
  exact ⟨rfl, rfl⟩
theorem szGraph_yes (s : Int) (v : Value) (l : List Ed) (r : Int) (w : World) (h : Edges w v l) (hl : ((l.length : Nat) : Int) ≤ r) (hr : r ≤ 1048576) :
    Calls Tryd.prog 4 #[.agg #[.int .i64 s, v], .int .i64 r] w fun e w' => e = .returned (.int .i64 (r - (l.length : Int))) ∧ Below w.heap.size w w' := by
  obtain ⟨A, c, hv, -⟩ := h.form
  have HS := Lib.hid (szIntA2S_yes v l r _ (h.below ((Below.refl _ _).alloc (Nat.le_refl _) (.cells #[.int .i64 s, v] 24))) hl hr)
  subst hv
  clear h
  go_enter Tryd.func4, Tryd.ntmps4
  go_wp2_with (go_at_call 12; refine HS.out.mono ?_; rintro e w' ⟨rfl, rfl⟩)
  go_ret
  exact ⟨rfl, (Below.refl _ _).alloc (Nat.le_refl _) _⟩
theorem szGraph_no (s : Int) (v : Value) (l : List Ed) (r : Int) (w : World) (h : Edges w v l) (hl : r < ((l.length : Nat) : Int)) (hr : 0 ≤ r) (hm : ((l.length : Nat) : Int) ≤ 9223372036854775807) :
    Calls Tryd.prog 4 #[.agg #[.int .i64 s, v], .int .i64 r] w fun e w' => e = .returned (.int .i64 (-1)) ∧ Below w.heap.size w w' := by
  obtain ⟨A, c, hv, -⟩ := h.form
  have HS := Lib.hid (szIntA2S_no v l r _ (h.below ((Below.refl _ _).alloc (Nat.le_refl _) (.cells #[.int .i64 s, v] 24))) hl hr hm)
  subst hv
  clear h
  go_enter Tryd.func4, Tryd.ntmps4
  go_wp2_with (go_at_call 12; refine HS.out.mono ?_; rintro e w' ⟨rfl, rfl⟩)
  go_ret
  exact ⟨rfl, (Below.refl _ _).alloc (Nat.le_refl _) _⟩
end Go.Proofs.YthgahkkjdpljjaaDoor.owns
