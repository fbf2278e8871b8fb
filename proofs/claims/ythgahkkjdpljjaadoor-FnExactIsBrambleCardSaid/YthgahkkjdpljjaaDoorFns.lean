/- Function values that test numbers, and what graphWhere and nodesWhere make of them. -/
import Derived.Test.YthgahkkjdpljjaaDoorEdges
import Derived.Test.YthgahkkjdpljjaaDoorInts
import Derived.Deep.DeepCutAuto
namespace Go.Proofs.YthgahkkjdpljjaaDoor.fns
open Go.RowKit P2 words edges ints

/-- a function value that answers for two numbers less than n, the first one less, in every world that goes on from w -/
structure Fn2 (w : World) (f : FuncId) (caps : Array Value) (n : Nat) (J : Nat → Nat → Bool) : Prop where
  enter : ∀ (args : Array Value) (W : World), (callFunc f args).run Tryd.prog W = .ok (.enter f args) W
  call : ∀ W, Below w.heap.size w W → ∀ x y : Nat, x < y → y < n → Calls Tryd.prog f (#[.int .i64 (x : Int), .int .i64 (y : Int)] ++ caps) W fun e W' => e = .returned (.bool (J x y)) ∧ Below W.heap.size W W'
structure Fn1 (w : World) (f : FuncId) (caps : Array Value) (n : Nat) (p : Nat → Bool) : Prop where
  enter : ∀ (args : Array Value) (W : World), (callFunc f args).run Tryd.prog W = .ok (.enter f args) W
  call : ∀ W, Below w.heap.size w W → ∀ x : Nat, x < n → Calls Tryd.prog f (#[.int .i64 (x : Int)] ++ caps) W fun e W' => e = .returned (.bool (p x)) ∧ Below W.heap.size W W'

/-- behind an append of one number, or of one edge -/
theorem push1 {w1 w2 : World} {B : Nat} {s v2 : Value} {m : List Int} {x : Int} {o : Obj} (hrow : w1.ownsRow B 3 1 s m.length (cellsI m)) (hown : w2.ownsRow B 3 1 v2 (m.length + 1) (cellsI m ++ [.int .i64 x]))
    (hg : (w1.alloc o).grownBy w2 s.ownBlock) (hB : B ≤ w1.heap.size) : w2.ownsRow B 3 1 v2 (m ++ [x]).length (cellsI (m ++ [x])) ∧ Below B w1 w2 :=
  ⟨by rw [cellsI_app, List.length_append]; exact hown, ((Below.refl B w1).alloc hB _).grown hg (by simp; omega) (fun j e => (hrow.lt j e).1)⟩
theorem pushE {w1 w2 : World} {B : Nat} {s v2 : Value} {m : List Ed} {a b : Int} {o : Obj} (hrow : w1.ownsRow B 48 2 s m.length (cellsE m)) (hown : w2.ownsRow B 48 2 v2 (m.length + 1) (cellsE m ++ [.int .i64 a, .int .i64 b]))
    (hg : (w1.alloc o).grownBy w2 s.ownBlock) (hB : B ≤ w1.heap.size) : w2.ownsRow B 48 2 v2 (m ++ [(a, b)]).length (cellsE (m ++ [(a, b)])) ∧ Below B w1 w2 :=
  ⟨by rw [cellsE_app, List.length_append]; exact hown, ((Below.refl B w1).alloc hB _).grown hg (by simp; omega) (fun j e => (hrow.lt j e).1)⟩
/-- the numbers less than k for which a test holds -/
def nw (p : Nat → Bool) (k : Nat) : List Int := ((List.range k).filter p).map fun x : Nat => (x : Int)
theorem nw_zero (p : Nat → Bool) : nw p 0 = [] := rfl
theorem nw_yes {p : Nat → Bool} {k : Nat} (h : p k = true) : nw p (k + 1) = nw p k ++ [(k : Int)] := by
  unfold nw
  rw [List.range_succ, List.filter_append, List.map_append]
  simp [h]
theorem nw_no {p : Nat → Bool} {k : Nat} (h : p k = false) : nw p (k + 1) = nw p k := by
  unfold nw
  rw [List.range_succ, List.filter_append, List.map_append]
  simp [h]
theorem nw_len (p : Nat → Bool) (k : Nat) : (nw p k).length ≤ k := by
  unfold nw
  rw [List.length_map]
  have := List.length_filter_le p (List.range k)
  simpa using this
theorem mem_nw {p : Nat → Bool} {k : Nat} {x : Int} : x ∈ nw p k ↔ ∃ j : Nat, j < k ∧ p j = true ∧ x = (j : Int) := by
  unfold nw
  simp only [List.mem_map, List.mem_filter, List.mem_range]
  constructor
  · rintro ⟨j, ⟨h1, h2⟩, rfl⟩; exact ⟨j, h1, h2, rfl⟩
  · rintro ⟨j, h1, h2, rfl⟩; exact ⟨j, ⟨h1, h2⟩, rfl⟩

end Go.Proofs.YthgahkkjdpljjaaDoor.fns
