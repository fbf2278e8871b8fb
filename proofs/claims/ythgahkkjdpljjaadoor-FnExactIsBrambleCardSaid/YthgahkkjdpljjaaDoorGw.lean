/- The contract of graphWhere: the Graph of the edges that a function value allows. -/
import Derived.Test.YthgahkkjdpljjaaDoorFns
namespace Go.Proofs.YthgahkkjdpljjaaDoor.gws
open Go.RowKit P2 words edges fns

/-- what graphWhere holds of its Graph in the midst: its block, its edges -/
def Mid (w wr : World) (n : Nat) (l : List Ed) : Prop :=
  ∃ A c, Blk wr (w.heap.size + 1) 30 #[.int .i64 (n : Int), .slice A l.length c] ∧ wr.ownsRow (w.heap.size + 2) 48 2 (.slice A l.length c) l.length (cellsE l) ∧
    Blk wr w.heap.size 30 #[.int .i64 0, .slice none 0 0] ∧ Below w.heap.size w wr
theorem Mid.call {w wr w1 : World} {n : Nat} {l : List Ed} (h : Mid w wr n l) (hb : Below wr.heap.size wr w1) : Mid w w1 n l := by
  obtain ⟨A, c, h1, h2, h3, h4⟩ := h
  exact ⟨A, c, h1.below hb h1.lt, own_below h2 hb, h3.below hb h3.lt, h4.trans (hb.mono h4.size)⟩
theorem Mid.push {w w1 w2 : World} {n m : Nat} {l : List Ed} {e : Ed} {A : Option Addr} {c : Nat} {o : Obj} {v : Value}
    (hB1 : Blk w1 (w.heap.size + 1) 30 #[.int .i64 (n : Int), .slice A l.length c]) (hr : w1.ownsRow (w.heap.size + 2) 48 2 (.slice A l.length c) l.length (cellsE l))
    (hR : Blk w1 w.heap.size 30 #[.int .i64 0, .slice none 0 0]) (hb : Below w.heap.size w w1)
    (hown : w2.ownsRow (w.heap.size + 2) 48 2 v (l.length + m) (cellsE (l ++ [e]))) (hm : m = 1) (hg : (w1.alloc o).grownBy w2 (Value.slice A l.length c).ownBlock) :
    ∃ A' c', v = .slice A' (l ++ [e]).length c' ∧ Mid w (w2.setCell ⟨w.heap.size + 1, 1, none⟩ (.slice A' (l ++ [e]).length c')) n (l ++ [e]) ∧ Blk w2 (w.heap.size + 1) 30 #[.int .i64 (n : Int), .slice A l.length c] := by
  subst hm
  obtain ⟨A', c', rfl⟩ := own_form hown
  have hlen : (l ++ [e]).length = l.length + 1 := by simp
  rw [← hlen] at hown ⊢
  have hne : ∀ k, (Value.slice A l.length c).ownBlock = some k → w.heap.size + 2 ≤ k := fun k hk => (hr.lt k hk).1
  have hs1 : w.heap.size + 1 < w1.heap.size := hB1.lt
  have hblk : Blk w2 (w.heap.size + 1) 30 #[.int .i64 (n : Int), .slice A l.length c] := (hB1.alloc o).grown hg (fun hh => by have := hne _ hh.symm; omega)
  have hblk0 : Blk w2 w.heap.size 30 #[.int .i64 0, .slice none 0 0] := (hR.alloc o).grown hg (fun hh => by have := hne _ hh.symm; omega)
  refine ⟨A', c', rfl, ⟨A', c', ?_, ownsRow_setCell_below hown (by simp) _, hblk0.far (by simp) _, ?_⟩, hblk⟩
  · have := hblk.set_ 1 (.slice A' (l ++ [e]).length c')
    simpa using this
  · exact ((hb.alloc (by omega) o).grown hg (by simp; omega) (fun k hk => by have := hne k hk; omega)).setCell (by simp) _

end Go.Proofs.YthgahkkjdpljjaaDoor.gws
