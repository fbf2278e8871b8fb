/- What a function returns that may fail: a Graph and true, a list and true, or zero values and false. -/
import Derived.Test.YthgahkkjdpljjaaDoorProg
import Derived.Test.YthgahkkjdpljjaaDoorFns
namespace Go.Proofs.YthgahkkjdpljjaaDoor.rets
open Go.RowKit P2 words

noncomputable def okG (p : Prop) : Bool := @decide p (Classical.propDecidable _)
noncomputable def szG (p : Prop) (n : Int) : Int := if okG p = true then n else 0
noncomputable def edG (p : Prop) (l : List Ed) : List Ed := if okG p = true then l else []
noncomputable def inG (p : Prop) (l : List Int) : List Int := if okG p = true then l else []
theorem okG_yes {p : Prop} (h : p) : okG p = true := @decide_eq_true _ (Classical.propDecidable _) h
theorem okG_no {p : Prop} (h : ¬ p) : okG p = false := @decide_eq_false _ (Classical.propDecidable _) h
theorem okG_iff {p : Prop} : okG p = true ↔ p := @decide_eq_true_iff _ (Classical.propDecidable _)
theorem szG_yes {p : Prop} (h : p) (n : Int) : szG p n = n := by unfold szG; rw [okG_yes h]; rfl
theorem szG_no {p : Prop} (h : ¬ p) (n : Int) : szG p n = 0 := by unfold szG; rw [okG_no h]; rfl
theorem edG_yes {p : Prop} (h : p) (l : List Ed) : edG p l = l := by unfold edG; rw [okG_yes h]; rfl
theorem edG_no {p : Prop} (h : ¬ p) (l : List Ed) : edG p l = [] := by unfold edG; rw [okG_no h]; rfl
theorem inG_yes {p : Prop} (h : p) (l : List Int) : inG p l = l := by unfold inG; rw [okG_yes h]; rfl
theorem inG_no {p : Prop} (h : ¬ p) (l : List Int) : inG p l = [] := by unfold inG; rw [okG_no h]; rfl
theorem edG_len {p : Prop} {l : List Ed} {k : Nat} (h : p → l.length ≤ k) : (edG p l).length ≤ k := by
  by_cases hp : p
  · rw [edG_yes hp]; exact h hp
  · rw [edG_no hp]; exact Nat.zero_le _
theorem inG_len {p : Prop} {l : List Int} {k : Nat} (h : p → l.length ≤ k) : (inG p l).length ≤ k := by
  by_cases hp : p
  · rw [inG_yes hp]; exact h hp
  · rw [inG_no hp]; exact Nat.zero_le _
theorem edG_congr {p q : Prop} {l m : List Ed} (h : p ↔ q) (hl : p → l = m) : edG p l = edG q m := by
  by_cases hp : p
  · rw [edG_yes hp, edG_yes (h.1 hp), hl hp]
  · rw [edG_no hp, edG_no (fun hq => hp (h.2 hq))]
theorem inG_congr {p q : Prop} {l m : List Int} (h : p ↔ q) (hl : p → l = m) : inG p l = inG q m := by
  by_cases hp : p
  · rw [inG_yes hp, inG_yes (h.1 hp), hl hp]
  · rw [inG_no hp, inG_no (fun hq => hp (h.2 hq))]

/-- a Graph and true where p holds, or zero values and false -/
def RetG (w : World) (p : Prop) (n : Int) (l : List Ed) (e : Ending) (w' : World) : Prop :=
  ∃ A c, e = .returned (.tuple #[.agg #[.int .i64 (szG p n), .slice A (edG p l).length c], .bool (okG p)]) ∧
    w'.ownsRow w.heap.size 48 2 (.slice A (edG p l).length c) (edG p l).length (cellsE (edG p l)) ∧ Below w.heap.size w w'
theorem RetG.yes {w w' : World} {p : Prop} {n : Int} {l : List Ed} {A : Option Addr} {c : Nat} (hp : p) (ho : w'.ownsRow w.heap.size 48 2 (.slice A l.length c) l.length (cellsE l)) (hb : Below w.heap.size w w') :
    RetG w p n l (.returned (.tuple #[.agg #[.int .i64 n, .slice A l.length c], .bool true])) w' := by
  refine ⟨A, c, ?_, ?_, hb⟩
  · rw [szG_yes hp, edG_yes hp, okG_yes hp]
  · rw [edG_yes hp]; exact ho
theorem RetG.no {w w' : World} {p : Prop} {n : Int} {l : List Ed} (hp : ¬ p) (hb : Below w.heap.size w w') :
    RetG w p n l (.returned (.tuple #[.agg #[.int .i64 0, .slice none 0 0], .bool false])) w' := by
  refine ⟨none, 0, ?_, ?_, hb⟩
  · rw [szG_no hp, edG_no hp, okG_no hp]; rfl
  · rw [edG_no hp]; exact World.ownsRow_nil _ _ _ _
theorem RetG.congr {w w' : World} {p q : Prop} {n m : Int} {l k : List Ed} {e : Ending} (h : RetG w p n l e w') (hp : p ↔ q) (hn : p → n = m) (hl : p → l = k) : RetG w q m k e w' := by
  by_cases h0 : p
  · obtain rfl := hn h0
    obtain rfl := hl h0
    rw [show q = p from (propext hp).symm]; exact h
  · have e1 : RetG w p n l = RetG w q m k := by
      funext e w'
      unfold RetG
      rw [szG_no h0, edG_no h0, okG_no h0, szG_no (fun hq => h0 (hp.2 hq)), edG_no (fun hq => h0 (hp.2 hq)), okG_no (fun hq => h0 (hp.2 hq))]
    rw [← e1]; exact h
/-- a list of numbers and true where p holds, or zero values and false -/
def RetI (w : World) (p : Prop) (l : List Int) (e : Ending) (w' : World) : Prop :=
  ∃ A c, e = .returned (.tuple #[.slice A (inG p l).length c, .bool (okG p)]) ∧
    w'.ownsRow w.heap.size 3 1 (.slice A (inG p l).length c) (inG p l).length (cellsI (inG p l)) ∧ Below w.heap.size w w'
theorem RetI.yes {w w' : World} {p : Prop} {l : List Int} {A : Option Addr} {c : Nat} (hp : p) (ho : w'.ownsRow w.heap.size 3 1 (.slice A l.length c) l.length (cellsI l)) (hb : Below w.heap.size w w') :
    RetI w p l (.returned (.tuple #[.slice A l.length c, .bool true])) w' := by
  refine ⟨A, c, ?_, ?_, hb⟩
  · rw [inG_yes hp, okG_yes hp]
  · rw [inG_yes hp]; exact ho
theorem RetI.no {w w' : World} {p : Prop} {l : List Int} {A : Option Addr} {c : Nat} (hp : ¬ p) (ho : w'.ownsRow w.heap.size 3 1 (.slice A 0 c) 0 []) (hb : Below w.heap.size w w') :
    RetI w p l (.returned (.tuple #[.slice A 0 c, .bool false])) w' := by
  refine ⟨A, c, ?_, ?_, hb⟩
  · rw [inG_no hp, okG_no hp]; rfl
  · rw [inG_no hp]; exact ho
theorem RetI.nil {w w' : World} {p : Prop} {l : List Int} (hp : ¬ p) (hb : Below w.heap.size w w') : RetI w p l (.returned (.tuple #[.slice none 0 0, .bool false])) w' :=
  RetI.no hp (World.ownsRow_nil _ _ _ _) hb
theorem RetI.congr {w w' : World} {p q : Prop} {l k : List Int} {e : Ending} (h : RetI w p l e w') (hp : p ↔ q) (hl : p → l = k) : RetI w q k e w' := by
  by_cases h0 : p
  · obtain rfl := hl h0
    rw [show q = p from (propext hp).symm]; exact h
  · have e1 : RetI w p l = RetI w q k := by
      funext e w'
      unfold RetI
      rw [inG_no h0, okG_no h0, inG_no (fun hq => h0 (hp.2 hq)), okG_no (fun hq => h0 (hp.2 hq))]
    rw [← e1]; exact h
end Go.Proofs.YthgahkkjdpljjaaDoor.rets
