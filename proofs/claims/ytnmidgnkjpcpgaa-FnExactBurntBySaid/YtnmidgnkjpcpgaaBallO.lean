/- The contracts of the program's BallOf. -/
import Derived.Handy
import Derived.Test.YtnmidgnkjpcpgaaDistF
import Derived.Test.YtnmidgnkjpcpgaaDistM
import Derived.Test.YtnmidgnkjpcpgaaMid
import Derived.Deep.DeepCutAuto
import Derived.Deep.RegionHeld3
import Derived.BigQuiet
namespace Go.Proofs.Ytnmidgnkjpcpgaa.ballo
open Go.RowKit P2 words edges ints good near adjs fns rets nearv sets queue reps distf
set_option linter.unusedVariables false

noncomputable def ballL (n : Nat) (l : List Ed) (x : Nat) (r : Int) : List Int := nw (fun y => inB (fn (dist n (J0 l) x) y) 0 r) n
def BallOk (s : Int) (l : List Ed) (x r : Int) : Prop := nodesB s l [x] = true ∧ 0 ≤ r
theorem ball_len (s x r : Int) (l : List Ed) : (inG (BallOk s l x r) (ballL s.toNat l x.toNat r)).length ≤ 1048576 := inG_len fun h => by
  have h1 := (nodesB_iff.1 h.1).1.2.1
  have h2 := nw_len (fun y => inB (fn (dist s.toNat (J0 l) x.toNat) y) 0 r) s.toNat
  unfold ballL
  omega
theorem tneD : (3 : TypeId) ≠ 25 := by decide
/-- the variable of the distances is made and filled -/
def CutB (w wx : World) (a : Value) (n : Nat) (A : Option Addr) (c : Nat) (l : List Ed) (r : Int) (D : List Int) : Prop :=
  ∃ p A5 c5, a = .pointer (some ⟨p, 0, none⟩) ∧ Blk wx p 25 #[.slice A5 D.length c5] ∧ Ints wx (.slice A5 D.length c5) D ∧
    Blk wx w.heap.size 29 #[.int .i64 (n : Int), .slice A l.length c] ∧ Blk wx (w.heap.size + 1) 3 #[.int .i64 r] ∧ Below w.heap.size w wx
theorem CutB.put {w w3 : World} {p n c c5 B : Nat} {A A5 : Option Addr} {l : List Ed} {r : Int} {D : List Int} {a : Value} (hb : Blk w3 p 25 #[a]) (ho : w3.ownsRow B 3 1 (.slice A5 D.length c5) D.length (cellsI D))
    (hg : Blk w3 w.heap.size 29 #[.int .i64 (n : Int), .slice A l.length c]) (hx : Blk w3 (w.heap.size + 1) 3 #[.int .i64 r]) (hB : Below w.heap.size w w3) (hp : w.heap.size + 1 < p) :
    CutB w (w3.setCell ⟨p, 0, none⟩ (.slice A5 D.length c5)) (.pointer (some ⟨p, 0, none⟩)) n A c l r D :=
  ⟨p, A5, c5, rfl, hb.set_ 0 _, Reads.of_own (ho.kept (gset (World.grownBy.refl w3 (some p)) 0 _) (.inr (mids.own_ne ho hb tneD))), hg.far (by show w.heap.size ≠ p; omega) _, hx.far (by show w.heap.size + 1 ≠ p; omega) _, hB.setCell (by show w.heap.size ≤ p; omega) _⟩
theorem CutB.new {w w3 : World} {n c c5 B : Nat} {A A5 : Option Addr} {l : List Ed} {r : Int} {D : List Int} (ho : w3.ownsRow B 3 1 (.slice A5 D.length c5) D.length (cellsI D))
    (hg : Blk w3 w.heap.size 29 #[.int .i64 (n : Int), .slice A l.length c]) (hx : Blk w3 (w.heap.size + 1) 3 #[.int .i64 r]) (hB : Below w.heap.size w w3) :
    CutB w (w3.alloc (.cells #[.slice A5 D.length c5] 25)) (.pointer (some ⟨w3.heap.size, 0, none⟩)) n A c l r D :=
  ⟨w3.heap.size, A5, c5, rfl, Blk.new _ _ _, Reads.of_own (ho.alloc _), hg.alloc _, hx.alloc _, hB.alloc hB.size _⟩

end Go.Proofs.Ytnmidgnkjpcpgaa.ballo
