/- The contracts of StrippingOf and CoreOf, of the program and of the model. -/
import Derived.Test.YtcnfeijniidclaaDoorStripI
import Derived.Test.YtcnfeijniidclaaDoorStripS
namespace Go.Proofs.YtcnfeijniidclaaDoor.core
open Go.RowKit P2 words edges ints good adjs fns sets rets covs cors dism least strip
set_option linter.unusedVariables false

/-- a list of pairs and true where p holds, or nil and false -/
def RetP (w : World) (p : Prop) (l : List Ed) (e : Ending) (w' : World) : Prop :=
  ∃ A c, e = .returned (.tuple #[.slice A (edG p l).length c, .bool (okG p)]) ∧
    w'.ownsRow w.heap.size 43 2 (.slice A (edG p l).length c) (edG p l).length (cellsE (edG p l)) ∧ Below w.heap.size w w'
theorem RetP.yes {w w' : World} {p : Prop} {l : List Ed} {A : Option Addr} {c : Nat} (hp : p) (ho : w'.ownsRow w.heap.size 43 2 (.slice A l.length c) l.length (cellsE l)) (hb : Below w.heap.size w w') :
    RetP w p l (.returned (.tuple #[.slice A l.length c, .bool true])) w' := by
  refine ⟨A, c, ?_, ?_, hb⟩
  · rw [edG_yes hp, okG_yes hp]
  · rw [edG_yes hp]; exact ho
theorem RetP.no {w w' : World} {p : Prop} {l : List Ed} {A : Option Addr} {c : Nat} (hp : ¬ p) (ho : w'.ownsRow w.heap.size 43 2 (.slice A 0 c) 0 []) (hb : Below w.heap.size w w') :
    RetP w p l (.returned (.tuple #[.slice A 0 c, .bool false])) w' := by
  refine ⟨A, c, ?_, ?_, hb⟩
  · rw [edG_no hp, okG_no hp]; rfl
  · rw [edG_no hp]; exact ho
theorem RetP.nil {w w' : World} {p : Prop} {l : List Ed} (hp : ¬ p) (hb : Below w.heap.size w w') : RetP w p l (.returned (.tuple #[.slice none 0 0, .bool false])) w' :=
  RetP.no hp (World.ownsRow_nil _ _ _ _) hb
theorem kL_le {l : List Ed} {n : Nat} : kL l n ≤ 8 := by
  unfold kL
  cases h : (List.range 9).find? fun k => cornersN l n (sB l n k) == 0 with
  | none => simp
  | some k =>
    have := List.mem_range.1 (List.mem_of_find?_eq_some h)
    simp; omega
theorem strip_len (s : Int) (l : List Ed) : (edG (SomeP s l) (stripL l s.toNat)).length ≤ 1048576 := edG_len fun h => by
  unfold stripL; rw [sL_len]; have := kL_le (l := l) (n := s.toNat); omega
noncomputable def coreL (l : List Ed) (n : Nat) : List Int := nw (bitB (coreB l n)) n
theorem core_len (s : Int) (l : List Ed) : (inG (SomeP s l) (coreL l s.toNat)).length ≤ 1048576 := inG_len fun h => by
  unfold coreL; have := nw_len (bitB (coreB l s.toNat)) s.toNat; have := h.1.2.1; omega

end Go.Proofs.YtcnfeijniidclaaDoor.core
