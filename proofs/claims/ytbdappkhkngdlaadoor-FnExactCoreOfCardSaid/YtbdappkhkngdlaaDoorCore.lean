/- The contracts of StrippingOf and CoreOf, of the program and of the model. -/
import Derived.Test.YtbdappkhkngdlaaDoorStripI
import Derived.Test.YtbdappkhkngdlaaDoorStripS
namespace Go.Proofs.YtbdappkhkngdlaaDoor.core
open Go.RowKit P2 words edges ints good adjs fns sets rets covs cors dism least strip
set_option linter.unusedVariables false

/-- a list of pairs and true where p holds, or nil and false -/
def RetP (w : World) (p : Prop) (l : List Ed) (e : Ending) (w' : World) : Prop :=
  ∃ A c, e = .returned (.tuple #[.slice A (edG p l).length c, .bool (okG p)]) ∧
    w'.ownsRow w.heap.size 50 2 (.slice A (edG p l).length c) (edG p l).length (cellsE (edG p l)) ∧ Below w.heap.size w w'
theorem RetP.yes {w w' : World} {p : Prop} {l : List Ed} {A : Option Addr} {c : Nat} (hp : p) (ho : w'.ownsRow w.heap.size 50 2 (.slice A l.length c) l.length (cellsE l)) (hb : Below w.heap.size w w') :
    RetP w p l (.returned (.tuple #[.slice A l.length c, .bool true])) w' := by
  refine ⟨A, c, ?_, ?_, hb⟩
  · rw [edG_yes hp, okG_yes hp]
  · rw [edG_yes hp]; exact ho
theorem RetP.no {w w' : World} {p : Prop} {l : List Ed} {A : Option Addr} {c : Nat} (hp : ¬ p) (ho : w'.ownsRow w.heap.size 50 2 (.slice A 0 c) 0 []) (hb : Below w.heap.size w w') :
    RetP w p l (.returned (.tuple #[.slice A 0 c, .bool false])) w' := by
  refine ⟨A, c, ?_, ?_, hb⟩
  · rw [edG_no hp, okG_no hp]; rfl
  · rw [edG_no hp]; exact ho
theorem RetP.nil {w w' : World} {p : Prop} {l : List Ed} (hp : ¬ p) (hb : Below w.heap.size w w') : RetP w p l (.returned (.tuple #[.slice none 0 0, .bool false])) w' :=
  RetP.no hp (World.ownsRow_nil _ _ _ _) hb
theorem kL_le {l : List Ed} {n : Nat} : kL l n ≤ 8 := by
  unfold kL
  cases h : (List.range 9).find? fun k => cornersN l n (sB l n k) == 0 with
  | none => simp
  | some k =>
    have := List.mem_range.1 (List.mem_of_find?_eq_some h)
    simp; omega
theorem strip_len (s : Int) (l : List Ed) : (edG (SomeP s l) (stripL l s.toNat)).length ≤ 1048576 := edG_len fun h => by
  unfold stripL; rw [sL_len]; have := kL_le (l := l) (n := s.toNat); omega
noncomputable def coreL (l : List Ed) (n : Nat) : List Int := nw (bitB (coreB l n)) n
theorem core_len (s : Int) (l : List Ed) : (inG (SomeP s l) (coreL l s.toNat)).length ≤ 1048576 := inG_len fun h => by
  unfold coreL; have := nw_len (bitB (coreB l s.toNat)) s.toNat; have := h.1.2.1; omega

set_option maxHeartbeats 1000000 in
theorem implCore_any (s : Int) (v : Value) (l : List Ed) (w : World) (hE : Env w) (h : Edges w v l) (hl : l.length ≤ 1048576) :
    Calls Tryd.prog 7 #[.agg #[.int .i64 s, v]] w (RetI w (SomeP s l) (coreL l s.toNat)) := by
  obtain ⟨A, c, rfl, -⟩ := h.form
  have H := Lib.hid h
  have HE := Lib.hid hE
  have b0 : Below w.heap.size w (w.alloc (.cells #[.int .i64 s, .slice A l.length c] 29)) := (Below.refl _ _).alloc (Nat.le_refl _) _
  have g0 := Blk.new w 29 #[.int .i64 s, .slice A l.length c]
  have HF := Lib.hid (isFilled_any s _ l _ (h.below b0) hl)
  clear h hE
  by_cases hsm : SomeP s l
  · rw [okG_yes hsm] at HF
    obtain ⟨n, rfl⟩ : ∃ n : Nat, s = (n : Int) := ⟨s.toNat, by have := hsm.2; omega⟩
    have hn : n ≤ 8 := by have := hsm.1.2.1; omega
    have HOK := Lib.hid hsm
    clear hsm
    rw [Int.toNat_natCast]
    have hlt : coreB l n < 256 := sB_lt hn _
    have HNE : Hid (nw (bitB (coreB l n)) 8 = coreL l n) := nw_more hn (fun k h1 _ => by
      cases hb : bitB (coreB l n) k with
      | false => rfl
      | true => have := sB_bit hn (kL l n) k hb; omega)
    go_enter Tryd.func7, Tryd.ntmps7
    go_wp2_with fail
    refine HF.out.mono ?_
    rintro e w1 ⟨rfl, b1⟩
    have e1 := btrans b0 b1
    have g1 := g0.below b1 g0.lt
    clear HF b0 b1 g0
    obtain ⟨p0, p1, -, -⟩ := g1.two
    go_wp2_with fail
    refine (implStrip_any n _ l w1 (HE.out.next e1) (H.out.below e1) hl HOK.out.1 hn).mono ?_
    rintro e w2 ⟨A2, c2, rfl, o2, b2⟩
    have e2 := btrans e1 b2
    go_wp2_with fail
    refine (bitsI.nodes_any (coreB l n) w2 (by omega)).mono ?_
    rw [HNE.out]
    rintro e w3 ⟨A3, c3, rfl, o3, b3⟩
    go_wp2_with fail
    go_ret2
    exact RetI.yes HOK.out (own_base o3 e2.size) (btrans e2 b3)
  · rw [okG_no hsm] at HF
    have HN := Lib.hid hsm
    clear hsm
    go_enter Tryd.func7, Tryd.ntmps7
    go_wp2_with fail
    refine HF.out.mono ?_
    rintro e w1 ⟨rfl, b1⟩
    go_wp2_with fail
    go_ret2
    exact RetI.nil HN.out (btrans b0 b1)
set_option maxHeartbeats 1000000 in
theorem specCore_any (s : Int) (v : Value) (l : List Ed) (w : World) (h : Edges w v l) (hl : l.length ≤ 1048576) (hs1 : -9223372036854775808 ≤ s) (hs2 : s ≤ 9223372036854775807) :
    Calls Tryd.prog 5 #[.agg #[.int .i64 s, v]] w (RetI w (SomeP s l) (coreL l s.toNat)) := by
  obtain ⟨A, c, rfl, -⟩ := h.form
  have H := Lib.hid h
  have b0 : Below w.heap.size w (w.alloc (.cells #[.int .i64 s, .slice A l.length c] 29)) := (Below.refl _ _).alloc (Nat.le_refl _) _
  have g0 := Blk.new w 29 #[.int .i64 s, .slice A l.length c]
  have HF := Lib.hid (l3Some_any s _ l _ (h.below b0) hl hs1 hs2)
  clear h
  by_cases hsm : SomeP s l
  · rw [okG_yes hsm] at HF
    obtain ⟨n, rfl⟩ : ∃ n : Nat, s = (n : Int) := ⟨s.toNat, by have := hsm.2; omega⟩
    have hn : n ≤ 8 := by have := hsm.1.2.1; omega
    have HOK := Lib.hid hsm
    clear hsm
    rw [Int.toNat_natCast]
    go_enter Tryd.func5, Tryd.ntmps5
    go_wp2_with fail
    refine HF.out.mono ?_
    rintro e w1 ⟨rfl, b1⟩
    have e1 := btrans b0 b1
    have g1 := g0.below b1 g0.lt
    clear HF b0 b1 g0
    obtain ⟨p0, p1, -, -⟩ := g1.two
    go_wp2_with fail
    refine (l3Strip_any n _ l w1 (H.out.below e1) hl HOK.out.1 hn).mono ?_
    rintro e w2 ⟨A2, c2, A3, c3, rfl, o2, o3, b2⟩
    go_wp2_with fail
    go_ret2
    exact RetI.yes (l := coreL l n) HOK.out (own_base o3 e1.size) (btrans e1 b2)
  · rw [okG_no hsm] at HF
    have HN := Lib.hid hsm
    clear hsm
    go_enter Tryd.func5, Tryd.ntmps5
    go_wp2_with fail
    refine HF.out.mono ?_
    rintro e w1 ⟨rfl, b1⟩
    have e1 := btrans b0 b1
    go_wp2_with fail
    go_ret2
    exact RetI.no HN.out (own_base (own_new0 _ _ _) e1.size) (e1.alloc e1.size _)
end Go.Proofs.YtbdappkhkngdlaaDoor.core
