/- Two captured variables that hold the function values of the neighbors of two Graphs. -/
import Derived.Handy
import Derived.Test.YtcnfeijniidclaaNearV
import Derived.Test.YtcnfeijniidclaaMid
import Derived.Test.YtcnfeijniidclaaGw
import Derived.Deep.DeepCutAuto
import Derived.Deep.RegionHeld3
namespace Go.Proofs.Ytcnfeijniidclaa.cutp
open Go.RowKit P2 words edges ints good near adjs fns gws rets mids nearv
set_option linter.unusedVariables false

theorem NearIs.far {w : World} {c g : Nat} {l : List Ed} {t : TypeId} {u : Value} (h : NearIs w c l) (hb : Blk w g t #[.nilFunc]) : NearIs (w.setCell ⟨g, 0, none⟩ u) c l := by
  obtain ⟨b, n, D, h1, h2, h3⟩ := h
  have hg := gset (World.grownBy.refl w (some g)) 0 u
  have hc : c ≠ g := fun e => by
    subst e
    rw [hb.cell 0] at h1
    simp at h1
  have hbg : b ≠ g := fun e => by
    subst e
    obtain ⟨es, clock, he, _⟩ := h2
    unfold Blk at hb
    rw [he] at hb
    simp at hb
  exact ⟨b, n, D, (hg.cell (a := ⟨c, 0, none⟩) h1 (by simpa using hc)), h2.kept hg (by simpa using hbg), h3⟩
theorem NearIs.alloc {w : World} {c : Nat} {l : List Ed} (h : NearIs w c l) (o : Obj) : NearIs (w.alloc o) c l := h.below ((Below.refl _ _).alloc (Nat.le_refl _) _)
theorem Blk.put {w : World} {g : Nat} {t : TypeId} {a u : Value} (h : Blk w g t #[a]) : Blk (w.setCell ⟨g, 0, none⟩ u) g t #[u] := h.set_ 0 u
theorem blk_new_eq {w : World} {g : Nat} {t : TypeId} {cs : Array Value} (h : g = w.heap.size) : Blk (w.alloc (.cells cs t)) g t cs := by subst h; exact Blk.new _ _ _
theorem NearV.of_blk {w : World} {b c : Nat} {l : List Ed} {t : TypeId} (hb : Blk w b t #[.func (.func 91) #[] #[.pointer (some ⟨c, 0, none⟩)]]) (h : NearIs w c l) : NearV w b l := ⟨c, hb.cell 0, h⟩
/-- both variables hold the function values of the neighbors; the other variables are as they were -/
def CutP (w wx : World) (a b : Value) (n k : Nat) (A : Option Addr) (c : Nat) (A2 : Option Addr) (c2 : Nat) (l m : List Ed) : Prop :=
  ∃ p q, a = .pointer (some ⟨p, 0, none⟩) ∧ b = .pointer (some ⟨q, 0, none⟩) ∧ NearV wx p l ∧ NearV wx q m ∧ Blk wx w.heap.size 29 #[.int .i64 (n : Int), .slice A l.length c] ∧
    Blk wx (w.heap.size + 1) 29 #[.int .i64 (k : Int), .slice A2 m.length c2] ∧ Blk wx (w.heap.size + 1 + 1) 29 #[.int .i64 0, .slice none 0 0] ∧ Below w.heap.size w wx
end Go.Proofs.Ytcnfeijniidclaa.cutp
