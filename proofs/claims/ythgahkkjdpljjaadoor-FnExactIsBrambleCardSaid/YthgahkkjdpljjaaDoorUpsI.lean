/- The contracts of bits.Len below 256 and of the program's setsUpTo. -/
import Derived.Handy
import Derived.Test.YthgahkkjdpljjaaDoorUpsM
import Derived.Test.YthgahkkjdpljjaaDoorClosed
import Derived.Deep.AppendLies
import Derived.Deep.RegionHeld3
import Derived.Deep.DeepCutAuto
namespace Go.Proofs.YthgahkkjdpljjaaDoor.ups
open Go.RowKit P2 words edges ints good adjs fns sets rets covs bitsI
set_option linter.unusedVariables false

theorem len_is (D : ByteArray) (hD : (List.range 256).all (fun c => (D.data.getD c 0).toNat == lenN c) = true) (c : Nat) (hc : c < 256) (h : c < D.size) : wrap64 (wrap64 ((D[c]'h).toNat : Int)) = (lenN c : Int) := by
  have h1 := beq_iff_eq.1 (List.all_eq_true.1 hD c (List.mem_range.2 hc))
  have h2 : D.data.getD c 0 = D[c]'h := by
    show D.data.getD c 0 = D.data[c]'h
    have h' : c < D.data.size := h
    unfold Array.getD
    rw [dif_pos h']
    rfl
  rw [h2] at h1
  have h3 := len_le ⟨c, hc⟩
  simp only at h3
  have e : wrap64 (lenN c : Int) = (lenN c : Int) := Go.IntWalk.wrap64_in _ (by omega)
  rw [h1, e, e]
/-- behind an append of one word -/
theorem pushU {w1 w2 : World} {B : Nat} {s v2 : Value} {m : List Nat} {x : Nat} {o : Obj} (hrow : w1.ownsRow B 57 1 s m.length (cellsU m)) (hown : w2.ownsRow B 57 1 v2 (m.length + 1) (cellsU m ++ [.int .u64 (x : Int)]))
    (hg : (w1.alloc o).drew.grownBy w2 s.ownBlock) (hB : B ≤ w1.heap.size) : w2.ownsRow B 57 1 v2 (m ++ [x]).length (cellsU (m ++ [x])) ∧ Below B w1 w2 :=
  ⟨by rw [show cellsU (m ++ [x]) = cellsU m ++ [.int .u64 (x : Int)] from by simp [cellsU], List.length_append]; exact hown, ((Below.refl B w1).alloc hB _).drew.grown hg (by simp; omega) (fun j e => (hrow.lt j e).1)⟩
theorem bfs_mem {n m f i c : Nat} {L F : List Nat} (h : L[i]? = some c) (he : L.take i ++ bfsN n m (f + 1) (L.drop i) = F) : c ∈ F := by
  obtain ⟨h1, h2⟩ := List.getElem?_eq_some_iff.1 h
  rw [List.drop_eq_getElem_cons h1, h2] at he
  unfold bfsN at he
  rw [← he]
  split <;> simp
theorem len_le_n : ∀ n : Fin 9, ∀ c : Fin 256, c.1 < 2 ^ n.1 → lenN c.1 ≤ n.1 := by decide +kernel
theorem keep_alU {w : World} {p : Addr} {v : Value} {o : Obj} (h : w.cell? p = some v) : (w.alloc o).cell? p = some v :=
  ((Below.refl w.heap.size w).alloc (Nat.le_refl _) o |>.cell (p := p) (World.block_lt_of_cell? w p h)).trans h
end Go.Proofs.YthgahkkjdpljjaaDoor.ups
