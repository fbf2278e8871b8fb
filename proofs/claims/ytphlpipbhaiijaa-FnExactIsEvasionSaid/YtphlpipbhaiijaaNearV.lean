/- A variable that holds the function value of the neighbors. -/
import Derived.Test.YtphlpipbhaiijaaAdj
import Derived.Test.YtphlpipbhaiijaaFns
import Derived.Test.YtphlpipbhaiijaaRet
import Derived.Test.YtphlpipbhaiijaaMid
import Derived.Test.YtphlpipbhaiijaaGw
import Derived.Laws.EntriesVeiled
namespace Go.Proofs.Ytphlpipbhaiijaa.nearv
open Go.RowKit P2 words edges ints good near adjs fns

theorem in64_small {x : Int} (h : -100 ≤ x) (h2 : x ≤ 100) : In64 x := by unfold In64; omega
def NearV (w : World) (b : Nat) (l : List Ed) : Prop := ∃ c, w.cell? ⟨b, 0, none⟩ = some (.func (.func 159) #[] #[.pointer (some ⟨c, 0, none⟩)]) ∧ NearIs w c l
theorem NearV.below {w w' : World} {b : Nat} {l : List Ed} (h : NearV w b l) (hb : Below w.heap.size w w') : NearV w' b l := by
  obtain ⟨c, h1, h2⟩ := h
  exact ⟨c, (hb.cell (p := ⟨b, 0, none⟩) (World.block_lt_of_cell? w (a := ⟨b, 0, none⟩) h1)).trans h1, h2.below hb⟩
theorem cell_keep {w w' : World} {b o : Nat} {v : Value} (h : w.cell? ⟨b, o, none⟩ = some v) (hb : Below w.heap.size w w') : w'.cell? ⟨b, o, none⟩ = some v :=
  (hb.cell (p := ⟨b, o, none⟩) (World.block_lt_of_cell? w (a := ⟨b, o, none⟩) h)).trans h
/-- the variable, new -/
theorem NearV.new {w : World} {c : Nat} {l : List Ed} {t : TypeId} (h : NearIs w c l) :
    NearV (w.alloc (.cells #[.func (.func 159) #[] #[.pointer (some ⟨c, 0, none⟩)]] t)) w.heap.size l :=
  ⟨c, (Blk.new w t #[.func (.func 159) #[] #[.pointer (some ⟨c, 0, none⟩)]]).cell 0, h.below ((Below.refl _ _).alloc (Nat.le_refl _) _)⟩
/-- near, by the neighbors of a valid Graph -/
theorem near_adj (x y s : Int) (c : Nat) (l : List Ed) (w : World) (hg : P2.Good s l) (h : NearIs w c l) (hx : In64 x) (hy : In64 y) :
    Calls Try.prog 159 #[.int .i64 x, .int .i64 y, .pointer (some ⟨c, 0, none⟩)] w fun e w' => e = .returned (.bool (adj l x y)) ∧ w = w' := by
  rw [adj_min hg]; exact near_any x y c l w h hx hy
theorem good64 {s : Int} {l : List Ed} (hg : P2.Good s l) : ∀ e ∈ l, In64 e.1 ∧ In64 e.2 := fun e he => by
  have := hg.mem he
  have h8 := hg.2.1
  exact ⟨in64_small (by omega) (by omega), in64_small (by omega) (by omega)⟩
theorem gw_len {n : Nat} (J : Nat → Nat → Bool) (hn : n ≤ 8) : (gw n J).length ≤ 1048576 := by
  have h1 := gwTo_len J n n
  have : n * n ≤ 8 * 8 := Nat.mul_le_mul hn hn
  show (gwTo J n n).length ≤ _
  omega
end Go.Proofs.Ytphlpipbhaiijaa.nearv
