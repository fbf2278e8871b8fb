/- A result's box that is made anywhere among the calls ahead of the store into it. -/
import Derived.Test.YtcnfeijniidclaaMid
namespace Go.Proofs.Ytcnfeijniidclaa.boxes
open Go.RowKit P2 words edges mids

/-- the Graph is stored into its box -/
theorem box_done {w X : World} {R : Nat} {n : Int} {l : List Ed} {A : Option Addr} {c : Nat} {B : Nat} (hr : X.ownsRow B 72 2 (.slice A l.length c) l.length (cellsE l)) (hB : w.heap.size ≤ B)
    (hR : Blk X R 29 #[.int .i64 0, .slice none 0 0]) (hb : Below w.heap.size w X) (h5 : w.heap.size ≤ R) :
    Blk ((X.setCell ⟨R, 0, none⟩ (.int .i64 n)).setCell ⟨R, 1, none⟩ (.slice A l.length c)) R 29 #[.int .i64 n, .slice A l.length c] ∧ w.heap.size ≤ R ∧
      ((X.setCell ⟨R, 0, none⟩ (.int .i64 n)).setCell ⟨R, 1, none⟩ (.slice A l.length c)).ownsRow w.heap.size 72 2 (.slice A l.length c) l.length (cellsE l) ∧
      Below w.heap.size w ((X.setCell ⟨R, 0, none⟩ (.int .i64 n)).setCell ⟨R, 1, none⟩ (.slice A l.length c)) := by
  have hd := Mid.done (n := n) (own_base hr hB) hR hb h5
  exact ⟨(hR.set_ 0 (.int .i64 n)).set_ 1 (.slice A l.length c), h5, hd.1, hd.2⟩
theorem blk_new_eq {w : World} {g : Nat} {t : TypeId} {cs : Array Value} (h : g = w.heap.size) : Blk (w.alloc (.cells cs t)) g t cs := by subst h; exact Blk.new _ _ _
end Go.Proofs.Ytcnfeijniidclaa.boxes
