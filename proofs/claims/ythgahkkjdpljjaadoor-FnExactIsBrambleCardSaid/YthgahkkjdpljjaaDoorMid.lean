/- A Graph in the making: the variable that holds it, the row of its edges, the result's variable. -/
import Derived.Test.YthgahkkjdpljjaaDoorProg
import Derived.Test.YthgahkkjdpljjaaDoorFns
namespace Go.Proofs.YthgahkkjdpljjaaDoor.mids
open Go.RowKit P2 words edges

theorem own_ne {w : World} {B : Nat} {t t' : TypeId} {size n : Nat} {v : Value} {xs : List Value} {O : Nat} {cs : Array Value} (h : w.ownsRow B t size v n xs) (hb : Blk w O t' cs) (ht : t ≠ t') : v.ownBlock ≠ some O := by
  intro e
  rcases h.2 with ⟨rfl, _⟩ | ⟨g, cap, cur, rfl, _, hg, _⟩
  · simp [Value.ownBlock] at e
  · simp [Value.ownBlock] at e
    subst e
    unfold Blk at hb
    rw [hg] at hb
    simp at hb
    exact ht hb.2
theorem grown_blk {w w' : World} {B : Nat} {t t' : TypeId} {size n : Nat} {v : Value} {xs : List Value} {O : Nat} {cs : Array Value} {o : Obj} (h : w.ownsRow B t size v n xs) (hb : Blk w O t' cs) (ht : t ≠ t') (hg : (w.alloc o).grownBy w' v.ownBlock) : Blk w' O t' cs :=
  (hb.alloc o).grown hg (fun e => own_ne h hb ht e.symm)

/-- block O holds the Graph in the making, block R is the result's variable -/
def Mid (w wr : World) (R O : Nat) (n : Int) (l : List Ed) : Prop :=
  ∃ A c, Blk wr O 30 #[.int .i64 n, .slice A l.length c] ∧ wr.ownsRow w.heap.size 48 2 (.slice A l.length c) l.length (cellsE l) ∧
    Blk wr R 30 #[.int .i64 0, .slice none 0 0] ∧ Below w.heap.size w wr ∧ w.heap.size ≤ R ∧ w.heap.size ≤ O ∧ R ≠ O
theorem Mid.call {w wr w1 : World} {R O : Nat} {n : Int} {l : List Ed} (h : Mid w wr R O n l) (hb : Below wr.heap.size wr w1) : Mid w w1 R O n l := by
  obtain ⟨A, c, h1, h2, h3, h4, h5⟩ := h
  exact ⟨A, c, h1.below hb h1.lt, own_below h2 hb, h3.below hb h3.lt, h4.trans (hb.mono h4.size), h5⟩
theorem tne : (48 : TypeId) ≠ 30 := by decide
theorem Mid.push {w w1 w2 : World} {R O m : Nat} {n : Int} {l : List Ed} {a b : Int} {A : Option Addr} {c : Nat} {o : Obj} {v : Value}
    (hO : Blk w1 O 30 #[.int .i64 n, .slice A l.length c]) (hr : w1.ownsRow w.heap.size 48 2 (.slice A l.length c) l.length (cellsE l))
    (hR : Blk w1 R 30 #[.int .i64 0, .slice none 0 0]) (hb : Below w.heap.size w w1) (h5 : w.heap.size ≤ R ∧ w.heap.size ≤ O ∧ R ≠ O)
    (hown : w2.ownsRow w.heap.size 48 2 v (l.length + m) (cellsE l ++ [.int .i64 a, .int .i64 b])) (hm : m = 1) (hg : (w1.alloc o).grownBy w2 (Value.slice A l.length c).ownBlock) :
    ∃ A' c', v = .slice A' (l.length + 1) c' ∧ Mid w (w2.setCell ⟨O, 1, none⟩ (.slice A' (l.length + 1) c')) R O n (l ++ [(a, b)]) ∧ Blk w2 O 30 #[.int .i64 n, .slice A l.length c] := by
  subst hm
  obtain ⟨A', c', rfl⟩ := own_form hown
  have hlen : (l ++ [(a, b)]).length = l.length + 1 := by simp
  have hO2 := grown_blk hr hO tne hg
  have hR2 := grown_blk hr hR tne hg
  have hne := own_ne hown hO2 tne
  refine ⟨A', c', rfl, ⟨A', c', ?_, ?_, hR2.far h5.2.2 _, ?_, h5⟩, hO2⟩
  · rw [hlen]
    have := hO2.set_ 1 (.slice A' (l.length + 1) c')
    simpa using this
  · rw [hlen, cellsE_app]
    refine hown.kept (row := some O) ⟨rfl, rfl, rfl, by simp [World.setCell], fun k _ hk => Below.heap_setCell _ _ _ _ (fun e => hk (by simp [e]))⟩ (.inr hne)
  · exact ((hb.alloc (by have := hb.size; omega) o).grown hg (by have := hb.size; simp; omega) (fun k hk => (hr.lt k hk).1)).setCell h5.2.1 _
/-- other variables stay -/
theorem push_blk {w1 w2 : World} {B O X n : Nat} {t : TypeId} {v : Value} {xs : List Value} {cs : Array Value} {o : Obj} {u : Value} (hr : w1.ownsRow B 48 2 v n xs) (hX : Blk w1 X t cs) (ht : 48 ≠ t)
    (hg : (w1.alloc o).grownBy w2 v.ownBlock) (hne : X ≠ O) : Blk (w2.setCell ⟨O, 1, none⟩ u) X t cs :=
  (grown_blk hr hX ht hg).far hne _
/-- the end: the Graph is stored into the result's variable -/
theorem Mid.done {w wr : World} {R : Nat} {n : Int} {l : List Ed} {A : Option Addr} {c : Nat} (hr : wr.ownsRow w.heap.size 48 2 (.slice A l.length c) l.length (cellsE l))
    (hR : Blk wr R 30 #[.int .i64 0, .slice none 0 0]) (hb : Below w.heap.size w wr) (h5 : w.heap.size ≤ R) :
    ((wr.setCell ⟨R, 0, none⟩ (.int .i64 n)).setCell ⟨R, 1, none⟩ (.slice A l.length c)).ownsRow w.heap.size 48 2 (.slice A l.length c) l.length (cellsE l) ∧
      Below w.heap.size w ((wr.setCell ⟨R, 0, none⟩ (.int .i64 n)).setCell ⟨R, 1, none⟩ (.slice A l.length c)) := by
  have hk : ∀ (W : World) (j : Nat) (u : Value), W.grownBy (W.setCell ⟨R, j, none⟩ u) (some R) := fun W j u => ⟨rfl, rfl, rfl, by simp [World.setCell], fun k _ hk => Below.heap_setCell _ _ _ _ (fun e => hk (by simp [e]))⟩
  have hne := own_ne hr hR tne
  exact ⟨(hr.kept (hk _ _ _) (.inr hne)).kept (hk _ _ _) (.inr hne), (hb.setCell h5 _).setCell h5 _⟩
/-- the start: an empty row, the Graph in the making -/
theorem mid_new {w w1 : World} {R : Nat} (n : Int) (hR : Blk w1 R 30 #[.int .i64 0, .slice none 0 0]) (e1 : Below w.heap.size w w1) (h : w.heap.size ≤ R) :
    Mid w ((w1.alloc (.cells #[] 48)).alloc (.cells #[.int .i64 n, .slice (some ⟨w1.heap.size, 0, none⟩) 0 0] 30)) R (w1.heap.size + 1) n [] := by
  have hs := e1.size
  have hlt := hR.lt
  refine ⟨some ⟨w1.heap.size, 0, none⟩, 0, ?_, ?_, (hR.alloc _).alloc _, ?_, h, by omega, by omega⟩
  · simpa using Blk.new (w1.alloc (.cells #[] 48)) 30 #[.int .i64 n, .slice (some ⟨w1.heap.size, 0, none⟩) 0 0]
  · have := (World.ownsRow_lit (base := w1.heap.size) (e := 48) (size := 2) w1 #[] 0 (Nat.le_refl _) (Nat.zero_le _) (by simp)).alloc (.cells #[.int .i64 n, .slice (some ⟨w1.heap.size, 0, none⟩) 0 0] 30)
    exact own_base this hs
  · exact (e1.alloc hs _).alloc (by simp; omega) _
end Go.Proofs.YthgahkkjdpljjaaDoor.mids
